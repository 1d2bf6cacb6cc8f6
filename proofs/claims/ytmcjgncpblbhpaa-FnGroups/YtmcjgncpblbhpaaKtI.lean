/- slices.SortStableFunc over rows with their keys (stage 13). -/
import Derived.Test.YtmcjgncpblbhpaaKtE
import Derived.Test.YtmcjgncpblbhpaaSoI
namespace Go.Proofs.Ytmcjgncpblbhpaa
open Go.RowKit

theorem mrg_all2 (g N cap n nn : Nat) (k : Ce2) (cf : Nat → Nat → Int) (ho : LtO (ltF cf)) (fg : Nat) (cp : Array Value) (hN : n ≤ 4096) : ∀ L, Mr2 g N cap n nn k cf fg cp L
  | 0 => fun P s1 s2 S w hL h1 h2 => by omega
  | L + 1 => fun P s1 s2 S w hL h1 h2 hD hn hs p1 p2 hi hF => by
    by_cases e1 : s1.length = 1
    · obtain ⟨x, rfl⟩ : ∃ x, s1 = [x] := List.length_eq_one_iff.1 e1
      refine (sym_one2 g N cap n nn k cf ho P s2 S x fg cp w hD hn hN hs p2 (fun y hy => hi x (by simp) y hy) hF).mono ?_
      rintro e w' ⟨rfl, hK, s', h3, h4, h5⟩
      exact ⟨rfl, hK, s', h3, h4, h5⟩
    · by_cases e2 : s2.length = 1
      · obtain ⟨y, rfl⟩ : ∃ y, s2 = [y] := List.length_eq_one_iff.1 e2
        refine (sym_last2 g N cap n nn k cf ho P s1 S y fg cp w hD hn hN (by omega) (fun x hx => hs x (by rcases List.mem_cons.1 hx with rfl | h; exact List.mem_append_right _ (by simp); exact List.mem_append_left _ h)) p1 (fun x hx => hi x hx y (by simp)) hF).mono ?_
        rintro e w' ⟨rfl, hK, s', h3, h4, h5⟩
        exact ⟨rfl, hK, s', h3, h4, h5⟩
      · exact sym_two2 g N cap n nn k cf ho fg cp hN L (mrg_all2 g N cap n nn k cf ho fg cp hN L) P s1 s2 S w hL (by omega) (by omega) hD hn hs p1 p2 hi hF
/-- What sorting answers. -/
def Rs2 (g N n : Nat) (k : Ce2) (cf : Nat → Nat → Int) (w : World) (e : Ending) (w' : World) : Prop := e = .returned (.tuple #[]) ∧ Kept (fun x => x = g) w w' ∧ ∃ zs : List Nat, zs.Perm (List.range n) ∧ zs.Pairwise (RO (ltF cf)) ∧ Da2 w' g N k zs
set_option maxRecDepth 100000 in
set_option maxHeartbeats 16000000 in
theorem stable2 (g N cap n : Nat) (k : Ce2) (cf : Nat → Nat → Int) (ho : LtO (ltF cf)) (fg : Nat) (cp : Array Value) (w : World) (h : Da2 w g N k (List.range n)) (hN : n ≤ 4096) (hF : Cm2 g k n cf w fg cp) :
    Calls Try.prog 114 #[.slice (some ⟨g, 0, none⟩) n cap, .int .i64 (n : Nat), .func (.func fg) #[] cp] w (Rs2 g N n k cf w) := by
  have HI : Hid (∀ (a b : Nat) (P s S : List Nat) W, Da2 W g N k (P ++ (s ++ S)) → (P ++ (s ++ S)).length ≤ n → (∀ x ∈ s, x < n) → s.Pairwise (· < ·) → Kept (fun x => x = g) w W → P.length = a → P.length + s.length = b → Calls Try.prog 116 #[.slice (some ⟨g, 0, none⟩) n cap, .int .i64 (a : Nat), .int .i64 (b : Nat), .func (.func fg) #[] cp] W fun e w' => e = .returned (.tuple #[]) ∧ Kept (fun x => x = g) W w' ∧ ∃ s', s'.Perm s ∧ s'.Pairwise (RO (ltF cf)) ∧ Da2 w' g N k (P ++ (s' ++ S))) := fun a b P s S W h1 h2 h3 h4 h5 e1 e2 => by
    rw [← e1, ← e2]
    exact insertion2 g N cap n n k cf ho P s S fg cp W h1 h2 hN h3 h4 (hF.kept h5)
  have HM : Hid (∀ (a m b : Nat) (P s1 s2 S : List Nat) W, 0 < s1.length → 0 < s2.length → Da2 W g N k (P ++ (s1 ++ (s2 ++ S))) → (P ++ (s1 ++ (s2 ++ S))).length ≤ n → (∀ x ∈ s1 ++ s2, x < n) → s1.Pairwise (RO (ltF cf)) → s2.Pairwise (RO (ltF cf)) → (∀ x ∈ s1, ∀ y ∈ s2, x < y) → Kept (fun x => x = g) w W → P.length = a → P.length + s1.length = m → m + s2.length = b → Calls Try.prog 117 #[.slice (some ⟨g, 0, none⟩) n cap, .int .i64 (a : Nat), .int .i64 (m : Nat), .int .i64 (b : Nat), .func (.func fg) #[] cp] W (Re2 g N k cf P s1 s2 S W)) := fun a m b P s1 s2 S W h1 h2 h3 h4 h5 h6 h7 h8 h9 e1 e2 e3 => by
    rw [← e3, ← e2, ← e1]
    exact mrg_all2 g N cap n n k cf ho fg cp hN (s1.length + s2.length) P s1 s2 S W (Nat.le_refl _) h1 h2 h3 h4 h5 h6 h7 h8 (hF.kept h9)
  have D0 : Hid (InsS (ltF cf) n 0 (List.range n) ∧ Da2 w g N k (List.range n) ∧ Kept (fun x => x = g) w w) := ⟨InsS.start n, h, Kept.refl _ _⟩
  clear h hF ho
  go_enter Try.func114, Try.ntmps114
  go_wp2
  go_loopw [7, 8] (fun i j wr => ∃ (a b : Nat), i = .int .i64 a ∧ j = .int .i64 b ∧ a + 20 = b ∧ a ≤ n ∧ Hid (∃ zs, InsS (ltF cf) n a zs ∧ Da2 wr g N k zs ∧ Kept (fun x => x = g) w wr)) (fun i _ _ => n - (intOf i).toNat)
  case atStart => exact ⟨0, 20, rfl, rfl, rfl, by omega, _, D0.out⟩
  case round =>
    clear D0
    obtain ⟨a, b, rfl, rfl, hab, han, HW⟩ := hrel
    obtain ⟨zs, hZ, hD, hK⟩ := HW.out
    have hl : zs.length = n := by rw [hZ.1.length_eq, List.length_range]
    by_cases hlt : b ≤ n
    · have hltI : (b : Int) ≤ (n : Int) := by omega
      obtain ⟨e, l, _⟩ := hZ.part 20 (by omega)
      have C := HI.out a b (zs.take a) (List.range' a 20) (zs.drop (a + 20)) wr (by rw [← e]; exact hD) (by rw [← e]; omega) (fun x hx => by rw [List.mem_range'_1] at hx; omega) List.pairwise_lt_range' hK l (by rw [l]; simp; omega)
      have HN : Hid (∀ W, Kept (fun x => x = g) wr W → (∃ s', s'.Perm (List.range' a 20) ∧ s'.Pairwise (RO (ltF cf)) ∧ Da2 W g N k (zs.take a ++ (s' ++ zs.drop (a + 20)))) → ∃ zs, InsS (ltF cf) n b zs ∧ Da2 W g N k zs ∧ Kept (fun x => x = g) w W) := fun W hW ⟨s', q1, q2, q3⟩ => ⟨_, by rw [← hab]; exact hZ.next (by omega) q1 q2, q3, hK.trans hW⟩
      clear HW hZ hD hK e l hl
      obtain ⟨b2, hb2⟩ : ∃ b2, b + 20 = b2 := ⟨_, rfl⟩
      go_wp2_with fail
      refine C.mono ?_
      rintro e w1 ⟨rfl, k1, d1⟩
      have HN2 : Hid (∃ zs, InsS (ltF cf) n b zs ∧ Da2 w1 g N k zs ∧ Kept (fun x => x = g) w w1) := HN.out w1 k1 d1
      clear C HN k1 d1
      go_wp2
      go_roundw
      case rel => exact ⟨b, b + 20, rfl, by go_num, rfl, hlt, HN2⟩
      case measure => simp [intOf]; omega
    · have hltI : ¬ (b : Int) ≤ (n : Int) := by omega
      obtain ⟨e, l, _⟩ := hZ.part (n - a) (by omega)
      have ed : zs.drop (a + (n - a)) = [] := List.drop_of_length_le (by omega)
      rw [ed] at e
      have C := HI.out a n (zs.take a) (List.range' a (n - a)) [] wr (by rw [← e]; exact hD) (by rw [← e]; omega) (fun x hx => by rw [List.mem_range'_1] at hx; omega) List.pairwise_lt_range' hK l (by rw [l]; simp; omega)
      have HN : Hid (∀ W, Kept (fun x => x = g) wr W → (∃ s', s'.Perm (List.range' a (n - a)) ∧ s'.Pairwise (RO (ltF cf)) ∧ Da2 W g N k (zs.take a ++ (s' ++ []))) → ∃ zs, Lev (ltF cf) n 20 zs ∧ Da2 W g N k zs ∧ Kept (fun x => x = g) w W) := fun W hW ⟨s', q1, q2, q3⟩ => ⟨_, hZ.last han (by omega) q1 q2, q3, hK.trans hW⟩
      clear HW hZ hD hK e l hl ed
      go_wp2_with fail
      refine C.mono ?_
      rintro e w1 ⟨rfl, k1, d1⟩
      have HN2 : Hid (∃ zs, Lev (ltF cf) n 20 zs ∧ Da2 w1 g N k zs ∧ Kept (fun x => x = g) w w1) := HN.out w1 k1 d1
      clear C HN k1 d1 hltI hlt
      go_wp2
      go_loopw [6] (fun i wr => ∃ bs : Nat, i = .int .i64 bs ∧ 0 < bs ∧ bs ≤ 8192 ∧ Hid (∃ zs, Lev (ltF cf) n bs zs ∧ Da2 wr g N k zs ∧ Kept (fun x => x = g) w wr)) (fun i _ => n - (intOf i).toNat)
      case atStart => exact ⟨20, rfl, by omega, by omega, HN2⟩
      case round =>
        clear HN2
        obtain ⟨bs, rfl, hb0, hb8, HW⟩ := hrel
        obtain ⟨zs, hZ, hD, hK⟩ := HW.out
        by_cases hbn : bs < n
        · have hbnI : (bs : Int) < (n : Int) := by omega
          have M0 : Hid (∃ zs, MgS (ltF cf) n bs 0 zs ∧ Da2 wr g N k zs ∧ Kept (fun x => x = g) w wr) := ⟨zs, MgS.start hZ, hD, hK⟩
          obtain ⟨b2, hb2⟩ : ∃ b2, 2 * bs = b2 := ⟨_, rfl⟩
          have hb2I : 2 * (bs : Int) = (b2 : Int) := by omega
          have hb2J : (bs : Int) * 2 = (b2 : Int) := by omega
          have Hb2 : Hid (2 * bs = b2) := hb2
          have hb2n : b2 ≤ 8192 := by omega
          clear HW hZ hD hK hb2
          go_wp2
          go_loopw [7, 8] (fun i j wr => ∃ (a b : Nat), i = .int .i64 a ∧ j = .int .i64 b ∧ a + b2 = b ∧ a ≤ n ∧ Hid (∃ zs, MgS (ltF cf) n bs a zs ∧ Da2 wr g N k zs ∧ Kept (fun x => x = g) w wr)) (fun i _ _ => n - (intOf i).toNat)
          case atStart => exact ⟨0, b2, rfl, rfl, by omega, by omega, M0⟩
          case round =>
            clear M0
            obtain ⟨a, b, rfl, rfl, hab, han, HW⟩ := hrel
            obtain ⟨zs, hZ, hD, hK⟩ := HW.out
            have hl : zs.length = n := by rw [hZ.1.length_eq, List.length_range]
            obtain ⟨t1, t2⟩ := hZ.two
            have hbb := Hb2.out
            obtain ⟨m, hm⟩ : ∃ m, a + bs = m := ⟨_, rfl⟩
            have hmI : (a : Int) + (bs : Int) = (m : Int) := by omega
            by_cases hlt : b ≤ n
            · have hltI : (b : Int) ≤ (n : Int) := by omega
              have e := MgS.part zs a bs bs
              have l : (zs.take a).length = a := by rw [List.length_take]; omega
              have l1 : (sg zs a bs).length = bs := sg_len (by omega)
              have l2 : (sg zs (a + bs) bs).length = bs := sg_len (by omega)
              have C := HM.out a m b (zs.take a) (sg zs a bs) (sg zs (a + bs) bs) (zs.drop (a + bs + bs)) wr (by omega) (by omega) (by rw [← e]; exact hD) (by rw [← e]; omega) (fun x hx => perm_lt hZ.1 x (by rcases List.mem_append.1 hx with h | h <;> exact mem_sg h)) t1.1 t2.1 (fun x hx y hy => by have q1 := t1.2 x hx; have q2 := t2.2 y hy; omega) hK l (by omega) (by omega)
              have HN : Hid (∀ W, Kept (fun x => x = g) wr W → (∃ s', s'.Perm (sg zs a bs ++ sg zs (a + bs) bs) ∧ s'.Pairwise (RO (ltF cf)) ∧ Da2 W g N k (zs.take a ++ (s' ++ zs.drop (a + bs + bs)))) → ∃ zs, MgS (ltF cf) n bs b zs ∧ Da2 W g N k zs ∧ Kept (fun x => x = g) w W) := fun W hW ⟨s', q1, q2, q3⟩ => ⟨_, by rw [← hab, ← hbb]; exact hZ.next hb0 (by omega) q1 q2, q3, hK.trans hW⟩
              have HJ : Hid (a + b2 = b ∧ 0 < b2) := ⟨hab, by omega⟩
              clear HW hZ hD hK e l hl l1 l2 t1 t2 hm hbb hab
              go_wp2_with fail
              refine C.mono ?_
              rintro e w1 ⟨rfl, k1, d1⟩
              have HN2 : Hid (∃ zs, MgS (ltF cf) n bs b zs ∧ Da2 w1 g N k zs ∧ Kept (fun x => x = g) w w1) := HN.out w1 k1 d1
              clear C HN k1 d1
              go_wp2
              go_roundw
              case rel => exact ⟨b, b + b2, rfl, by go_num, rfl, hlt, HN2⟩
              case measure => have := HJ.out; simp [intOf]; omega
            · have hltI : ¬ (b : Int) ≤ (n : Int) := by omega
              by_cases hmn : m < n
              · have hmnI : (m : Int) < (n : Int) := by omega
                have e := MgS.part zs a bs (n - (a + bs))
                have ed : zs.drop (a + bs + (n - (a + bs))) = [] := List.drop_of_length_le (by omega)
                rw [ed] at e
                have l : (zs.take a).length = a := by rw [List.length_take]; omega
                have l1 : (sg zs a bs).length = bs := sg_len (by omega)
                have l2 : (sg zs (a + bs) (n - (a + bs))).length = n - (a + bs) := sg_len (by omega)
                have eS : sg zs (a + bs) bs = sg zs (a + bs) (n - (a + bs)) := by
                  unfold sg
                  rw [List.take_of_length_le (by rw [List.length_drop]; omega), List.take_of_length_le (by rw [List.length_drop]; omega)]
                rw [eS] at t2
                have C := HM.out a m n (zs.take a) (sg zs a bs) (sg zs (a + bs) (n - (a + bs))) [] wr (by omega) (by omega) (by rw [← e]; exact hD) (by rw [← e]; omega) (fun x hx => perm_lt hZ.1 x (by rcases List.mem_append.1 hx with h | h <;> exact mem_sg h)) t1.1 t2.1 (fun x hx y hy => by have q1 := t1.2 x hx; have q2 := t2.2 y hy; omega) hK l (by omega) (by omega)
                have HN : Hid (∀ W, Kept (fun x => x = g) wr W → (∃ s', s'.Perm (sg zs a bs ++ sg zs (a + bs) (n - (a + bs))) ∧ s'.Pairwise (RO (ltF cf)) ∧ Da2 W g N k (zs.take a ++ (s' ++ []))) → ∃ zs, Lev (ltF cf) n b2 zs ∧ Da2 W g N k zs ∧ Kept (fun x => x = g) w W) := fun W hW ⟨s', q1, q2, q3⟩ => ⟨_, by rw [← hbb]; exact hZ.last (by omega) (by omega) q1 q2, q3, hK.trans hW⟩
                have HJ : Hid (2 * bs = b2) := hbb
                clear HW hZ hD hK e l hl l1 l2 t1 t2 hm hbb hab eS ed
                go_wp2_with fail
                refine C.mono ?_
                rintro e w1 ⟨rfl, k1, d1⟩
                have HN2 : Hid (∃ zs, Lev (ltF cf) n b2 zs ∧ Da2 w1 g N k zs ∧ Kept (fun x => x = g) w w1) := HN.out w1 k1 d1
                clear C HN k1 d1
                go_wp2
                go_roundw
                case rel => exact ⟨b2, by go_num, by have := HJ.out; omega, by omega, HN2⟩
                case measure => have := HJ.out; simp [intOf]; omega
              · have hmnI : ¬ (m : Int) < (n : Int) := by omega
                have HN2 : Hid (∃ zs, Lev (ltF cf) n b2 zs ∧ Da2 wr g N k zs ∧ Kept (fun x => x = g) w wr) := ⟨zs, by rw [← hbb]; exact hZ.none (by omega), hD, hK⟩
                have HJ : Hid (2 * bs = b2) := hbb
                clear HW hZ hD hK hl t1 t2 hm hbb hab
                go_wp2
                go_roundw
                case rel => exact ⟨b2, by go_num, by have := HJ.out; omega, by omega, HN2⟩
                case measure => have := HJ.out; simp [intOf]; omega
        · have hbnI : ¬ (bs : Int) < (n : Int) := by omega
          have HE : Hid (Kept (fun x => x = g) w wr ∧ ∃ zs : List Nat, zs.Perm (List.range n) ∧ zs.Pairwise (RO (ltF cf)) ∧ Da2 wr g N k zs) := ⟨hK, zs, hZ.1, hZ.done (by omega), hD⟩
          clear HW hZ hD hK
          go_wp2
          go_end0
          exact ⟨rfl, HE.out.1, HE.out.2⟩
end Go.Proofs.Ytmcjgncpblbhpaa
