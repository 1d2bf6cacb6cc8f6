/- Nodes are marked, exactly (stage 5). -/
import Derived.Test.YthflalpapdaidaaCpB
namespace Go.Proofs.Ythflalpapdaidaa
open Go.RowKit

/-- The texts of marks from k on, m of them. -/
def msS (k : Int) (m : Nat) : List ByteArray := (List.range m).map (fun i : Nat => mtx (k + (i : Int)))
theorem msS_len (k : Int) (m : Nat) : (msS k m).length = m := by simp [msS]
theorem msS_nth (k : Int) (m i : Nat) (h : i < m) : nthS (msS k m) i = mtx (k + i) := by
  rw [nthS_get (by rw [msS_len]; exact h)]
  simp [msS]
/-- What a node counts. -/
def nsz (n : Nd) : Nat := 1 + n.2.1.length + n.2.2.1.length + n.2.2.2.length
def labN (n : Nd) (k : Int) : Nd := (k % 3 == 0, msS (k + 1) n.2.1.length, msS (k + 1 + n.2.1.length) n.2.2.1.length, marksL (k + 1 + n.2.1.length + n.2.2.1.length) n.2.2.2.length)
def labF : List Nd → Int → List Nd
  | [], _ => []
  | n :: ns, k => labN n k :: labF ns (k + nsz n)
def szTo : List Nd → Nat → Nat
  | [], _ => 0
  | _ :: _, 0 => 0
  | n :: ns, i + 1 => nsz n + szTo ns i
theorem labF_len : ∀ (ns : List Nd) (k : Int), (labF ns k).length = ns.length
  | [], _ => rfl
  | n :: ns, k => by simp only [labF, List.length_cons, labF_len ns]
theorem szTo_zero (ns : List Nd) : szTo ns 0 = 0 := by cases ns <;> rfl
theorem szTo_succ : ∀ (ns : List Nd) (i : Nat), i < ns.length → szTo ns (i + 1) = szTo ns i + nsz (nthN ns i)
  | [], _, h => by simp at h
  | n :: ns, 0, _ => by simp only [szTo, szTo_zero]; show nsz n + 0 = 0 + nsz n; omega
  | n :: ns, i + 1, h => by
    have := szTo_succ ns i (by simpa using h)
    simp only [szTo]
    show nsz n + szTo ns (i + 1) = nsz n + szTo ns i + nsz (nthN ns i)
    omega
theorem labF_at : ∀ (ns : List Nd) (k : Int) (i : Nat), i < ns.length → nthN (labF ns k) i = labN (nthN ns i) (k + szTo ns i)
  | [], _, _, h => by simp at h
  | n :: ns, k, 0, _ => by rw [szTo_zero]; show labN n k = labN n (k + ((0 : Nat) : Int)); simp
  | n :: ns, k, i + 1, h => by
    have := labF_at ns (k + nsz n) i (by simpa using h)
    show nthN (labF ns (k + nsz n)) i = labN (nthN ns i) (k + (nsz n + szTo ns i : Nat))
    rw [this]
    congr 1
    push_cast
    omega
theorem szTo_le {ns : List Nd} (h : ∀ i, i < ns.length → SmallN (nthN ns i)) : ∀ i, i ≤ ns.length → szTo ns i ≤ 3145729 * i
  | 0, _ => by rw [szTo_zero]; omega
  | i + 1, hi => by
    have ih := szTo_le h i (by omega)
    obtain ⟨a, b, c⟩ := h i (by omega)
    rw [szTo_succ ns i (by omega)]
    unfold nsz
    omega

theorem markS_own {w : World} {lo hi : Nat} {v : Value} {ss : List ByteArray} (k : Int) (H : OwnL 9 w lo hi v (vS ss)) (hl : ss.length ≤ 1048576) (k0 : 0 ≤ k) (k1 : k ≤ 576460752303423488) :
    Calls Try.prog 113 #[v, .int .i64 k] w fun r w' => r = .returned (.int .i64 (k + ss.length)) ∧ OwnL 9 w' lo hi v (vS (msS k ss.length)) ∧ Kept (fun b => lo ≤ b ∧ b < hi) w w' := by
  rcases H with ⟨rfl, h⟩ | ⟨h, c, cur, rfl, p1, p2, p3, p4, p5, p6⟩
  · rw [List.length_map] at h
    rw [h]
    refine (markS_nil none 0 k w).mono ?_
    rintro r w' ⟨rfl, rfl⟩
    exact ⟨by simp, .inl ⟨rfl, by simp [msS]⟩, Kept.refl _ _⟩
  · rw [List.length_map] at p1 ⊢
    refine (markS_vals h ss.length c c cur k w p4 p5 p1 k0 k1 hl).mono ?_
    rintro r w' ⟨rfl, ⟨cur', h1, h2, h3⟩, hK⟩
    refine ⟨rfl, .inr ⟨h, c, cur', by rw [List.length_map, msS_len], by rw [List.length_map, msS_len]; exact p1, p2, p3, h1, h2, fun i hi => ?_⟩, hK.mono fun j e => by subst e; exact ⟨p2, p3⟩⟩
    rw [List.length_map, msS_len] at hi
    rw [h3 i hi, List.getElem?_map]
    simp [msS, hi]
theorem markI_own {w : World} {lo hi : Nat} {v : Value} {ss : List Int} (k : Int) (H : OwnL 3 w lo hi v (vI ss)) (hl : ss.length ≤ 1048576) (k0 : 0 ≤ k) (k1 : k ≤ 1152921504606846976) :
    Calls Try.prog 47 #[v, .int .i64 k] w fun r w' => r = .returned (.int .i64 (k + ss.length)) ∧ OwnL 3 w' lo hi v (vI (marksL k ss.length)) ∧ Kept (fun b => lo ≤ b ∧ b < hi) w w' := by
  rcases H with ⟨rfl, h⟩ | ⟨h, c, cur, rfl, p1, p2, p3, p4, p5, p6⟩
  · rw [List.length_map] at h
    rw [h]
    refine (markI_nil none 0 k w).mono ?_
    rintro r w' ⟨rfl, rfl⟩
    exact ⟨by simp, .inl ⟨rfl, by simp [marksL]⟩, Kept.refl _ _⟩
  · rw [List.length_map] at p1 ⊢
    refine (markI_slab h ss.length c c cur k w p4 p5 p1 k0 k1 hl).mono ?_
    rintro r w' ⟨rfl, ⟨cur', h1, h2, h3⟩, hK⟩
    refine ⟨rfl, .inr ⟨h, c, cur', by rw [List.length_map, marksL_len], by rw [List.length_map, marksL_len]; exact p1, p2, p3, h1, h2, fun i hi => ?_⟩, hK.mono fun j e => by subst e; exact ⟨p2, p3⟩⟩
    rw [List.length_map, marksL_len] at hi
    rw [h3 i hi, List.getElem?_map]
    simp [marksL, hi]

/-- A list of nodes in block g, of which the first j are marked from k on. -/
structure MkJ (w : World) (g c hi : Nat) (k : Int) (ns : List Nd) (ms : Nat → Nat) (vs : Nat → Value × Value × Value) (j : Nat) (wr : World) : Prop where
  blk : ∃ cur : Array Value, wr.heap[g]? = some (.cells cur 93 (0, 0)) ∧ cur.size = c * 4 ∧ (∀ i, i < j → cur[i * 4]? = some (.bool ((k + szTo ns i) % 3 == 0))) ∧ ∀ i, i < ns.length → cur[i * 4 + 1]? = some (vs i).1 ∧ cur[i * 4 + 2]? = some (vs i).2.1 ∧ cur[i * 4 + 3]? = some (vs i).2.2
  did : ∀ i, i < j → NodD wr (ms i) (ms (i + 1)) (.bool ((k + szTo ns i) % 3 == 0)) (vs i).1 (vs i).2.1 (vs i).2.2 (labN (nthN ns i) (k + szTo ns i))
  todo : ∀ i, j ≤ i → i < ns.length → NodD wr (ms i) (ms (i + 1)) (.bool (nthN ns i).1) (vs i).1 (vs i).2.1 (vs i).2.2 (nthN ns i)
  kept : Kept (fun b => g ≤ b ∧ b < hi) w wr
theorem MkJ.next {w wr w' : World} {g c hi j : Nat} {k : Int} {ns : List Nd} {ms : Nat → Nat} {vs : Nat → Value × Value × Value} (H : MkJ w g c hi k ns ms vs j wr) (h1 : g + 1 ≤ ms 0) (h2 : ∀ i, i < ns.length → ms i ≤ ms (i + 1)) (h3 : ms ns.length ≤ hi) (hj : j < ns.length) (hc : ns.length ≤ c)
    (hK : Kept (fun b => ms j ≤ b ∧ b < ms (j + 1)) (wr.setCell ⟨g, j * 4, none⟩ (.bool ((k + szTo ns j) % 3 == 0))) w')
    (hn : NodD w' (ms j) (ms (j + 1)) (.bool ((k + szTo ns j) % 3 == 0)) (vs j).1 (vs j).2.1 (vs j).2.2 (labN (nthN ns j) (k + szTo ns j))) (hlt : g < hi) : MkJ w g c hi k ns ms vs (j + 1) w' := by
  obtain ⟨⟨cur, e, hs, a1, a2⟩, did, todo, kept⟩ := H
  have hm : ∀ i, i ≤ ns.length → g + 1 ≤ ms i := fun i hi' => Nat.le_trans h1 (ms_le h2 0 i (Nat.zero_le _) hi')
  have hmj := hm j (by omega)
  have e1 := slab_set e (o := j * 4) (.bool ((k + szTo ns j) % 3 == 0))
  have sz : (wr.setCell ⟨g, j * 4, none⟩ (.bool ((k + szTo ns j) % 3 == 0))).heap.size = wr.heap.size := by simp [World.setCell]
  have blk : ∀ b, b ≠ g → b < wr.heap.size → ¬ (ms j ≤ b ∧ b < ms (j + 1)) → w'.heap[b]? = wr.heap[b]? := fun b q1 q2 q3 => (hK.block b (by omega) q3).trans (set_other _ (fun e => q1 e.symm))
  refine ⟨⟨_, (hK.block g (by rw [sz]; exact slab_lt e) (by omega)).trans e1, by simpa using hs, fun i hi' => ?_, fun i hi' => ?_⟩, fun i hi' => ?_, fun i p1 p2 => ?_, ?_⟩
  · by_cases ei : i = j
    · subst ei
      rw [Array.getElem?_setIfInBounds_self_of_lt (by omega)]
    · rw [Array.getElem?_setIfInBounds_ne (by omega)]
      exact a1 i (by omega)
  · obtain ⟨b1, b2, b3⟩ := a2 i hi'
    refine ⟨?_, ?_, ?_⟩
    all_goals
      rw [Array.getElem?_setIfInBounds_ne (by omega)]
      assumption
  · by_cases ei : i = j
    · subst ei; exact hn
    · refine (did i (by omega)).same fun b q1 q2 q3 => blk b ?_ q3 ?_
      · have := hm i (by omega); omega
      · have := ms_le h2 (i + 1) j (by omega) (by omega); omega
  · refine (todo i (by omega) p2).same fun b q1 q2 q3 => blk b ?_ q3 ?_
    · have := hm i (by omega); omega
    · have := ms_le h2 (j + 1) i (by omega) (by omega); omega
  · have k1 : Kept (fun b => g ≤ b ∧ b < hi) w (wr.setCell ⟨g, j * 4, none⟩ (.bool ((k + szTo ns j) % 3 == 0))) := kept.set _ ⟨Nat.le_refl _, hlt⟩
    exact k1.trans (hK.mono fun b p => ⟨by omega, by have := ms_le h2 (j + 1) ns.length (by omega) (Nat.le_refl _); omega⟩)
theorem MkJ.done {w wr : World} {g c hi : Nat} {k : Int} {ns : List Nd} {ms : Nat → Nat} {vs : Nat → Value × Value × Value} (H : MkJ w g c hi k ns ms vs ns.length wr) (h1 : g + 1 ≤ ms 0) (h2 : ∀ i, i < ns.length → ms i ≤ ms (i + 1)) (h3 : ms ns.length ≤ hi) (hc : ns.length ≤ c) (lo : Nat) (hlo : lo ≤ g) (hlt : g < hi) : ForD wr lo hi (.slice (some ⟨g, 0, none⟩) ns.length c) (labF ns k) ∧ Kept (fun b => lo ≤ b ∧ b < hi) w wr := by
  obtain ⟨⟨cur, e, hs, a1, a2⟩, did, _, kept⟩ := H
  refine ⟨.inr ⟨g, c, cur, ms, by rw [labF_len], by rw [labF_len]; exact hc, hlo, hlt, e, hs, h1, by rw [labF_len]; exact h2, by rw [labF_len]; exact h3, fun i hi' => ?_⟩, kept.mono fun b p => ⟨by omega, p.2⟩⟩
  rw [labF_len] at hi'
  obtain ⟨b1, b2, b3⟩ := a2 i hi'
  rw [labF_at ns k i hi']
  exact ⟨_, _, _, _, ⟨a1 i hi', b1, b2, b3⟩, did i hi'⟩
theorem MkJ.start {w : World} {lo hi : Nat} {v : Value} {ns : List Nd} (k : Int) (H : ForD w lo hi v ns) : (v = .slice none 0 0 ∧ ns.length = 0) ∨ ∃ (g c : Nat) (ms : Nat → Nat) (vs : Nat → Value × Value × Value), v = .slice (some ⟨g, 0, none⟩) ns.length c ∧ (ns.length ≤ c ∧ lo ≤ g ∧ g < hi) ∧ (g + 1 ≤ ms 0 ∧ (∀ i, i < ns.length → ms i ≤ ms (i + 1)) ∧ ms ns.length ≤ hi) ∧ MkJ w g c hi k ns ms vs 0 w := by
  rcases H with h | ⟨g, c, cur, ms, e, a, b, d, h1, h2, h3, h4, h5, h6⟩
  · exact .inl h
  · refine .inr ⟨g, c, ms, ?_⟩
    obtain ⟨vs, hv⟩ : ∃ vs : Nat → Value × Value × Value, ∀ j, j < ns.length → (cur[j * 4 + 1]? = some (vs j).1 ∧ cur[j * 4 + 2]? = some (vs j).2.1 ∧ cur[j * 4 + 3]? = some (vs j).2.2) ∧ NodD w (ms j) (ms (j + 1)) (.bool (nthN ns j).1) (vs j).1 (vs j).2.1 (vs j).2.2 (nthN ns j) := by
      classical
      have q : ∀ j, j < ns.length → ∃ x : Value × Value × Value, (cur[j * 4 + 1]? = some x.1 ∧ cur[j * 4 + 2]? = some x.2.1 ∧ cur[j * 4 + 3]? = some x.2.2) ∧ NodD w (ms j) (ms (j + 1)) (.bool (nthN ns j).1) x.1 x.2.1 x.2.2 (nthN ns j) := fun j hj => by
        obtain ⟨p, q, r, s, ⟨_, e1, e2, e3⟩, hn⟩ := h6 j hj
        have e0 := hn.1
        subst e0
        exact ⟨(q, r, s), ⟨e1, e2, e3⟩, hn⟩
      exact ⟨fun j => if hj : j < ns.length then Classical.choose (q j hj) else (.bool false, .bool false, .bool false), fun j hj => by simp only [dif_pos hj]; exact Classical.choose_spec (q j hj)⟩
    exact ⟨vs, e, ⟨a, b, d⟩, ⟨h3, h4, h5⟩, ⟨cur, h1, h2, fun i hi => by omega, fun i hi => (hv i hi).1⟩, fun i hi => by omega, fun i _ hi => (hv i hi).2, Kept.refl _ _⟩
set_option maxRecDepth 100000 in
theorem markN_nil (a : Option Addr) (c : Nat) (k : Int) (w : World) : Calls Try.prog 82 #[.slice a 0 c, .int .i64 k] w fun e w' => e = .returned (.int .i64 k) ∧ w' = w := by
  go_enter Try.func82, Try.ntmps82
  go_wp2
  go_loop [1, 5] (fun m i => m = .int .i64 k ∧ i = .int .i64 0) (fun _ _ => 0)
  case atStart => exact ⟨rfl, rfl⟩
  case round =>
    obtain ⟨rfl, rfl⟩ := hrel
    go_wp2
    go_ret
    exact ⟨rfl, rfl⟩
set_option maxRecDepth 100000 in
set_option maxHeartbeats 8000000 in
theorem markN_exact {w : World} {lo hi : Nat} {v : Value} {ns : List Nd} (k : Int) (H : ForD w lo hi v ns) (hn : ns.length ≤ 1048576) (hsm : ∀ i, i < ns.length → SmallN (nthN ns i)) (k0 : 0 ≤ k) (k1 : k ≤ 1048576) :
    Calls Try.prog 82 #[v, .int .i64 k] w fun e w' => e = .returned (.int .i64 (k + szTo ns ns.length)) ∧ ForD w' lo hi v (labF ns k) ∧ Kept (fun b => lo ≤ b ∧ b < hi) w w' := by
  rcases MkJ.start k H with ⟨rfl, h0⟩ | ⟨g, c, ms, vs, rfl, ⟨p1, p2, p3⟩, ⟨q1, q2, q3⟩, H0⟩
  · obtain rfl : ns = [] := List.length_eq_zero_iff.1 h0
    refine (markN_nil none 0 k w).mono ?_
    rintro e w' ⟨rfl, rfl⟩
    exact ⟨by simp [szTo], .inl ⟨rfl, rfl⟩, Kept.refl _ _⟩
  have HP : Hid (ns.length ≤ c ∧ lo ≤ g ∧ g < hi) := ⟨p1, p2, p3⟩
  have HQ : Hid (g + 1 ≤ ms 0 ∧ (∀ i, i < ns.length → ms i ≤ ms (i + 1)) ∧ ms ns.length ≤ hi) := ⟨q1, q2, q3⟩
  have HH : Hid (MkJ w g c hi k ns ms vs 0 w) := H0
  have HM : Hid (∀ i, i < ns.length → SmallN (nthN ns i)) := hsm
  have HZ : Hid (∀ i, i ≤ ns.length → szTo ns i ≤ 3145729 * i) := szTo_le hsm
  clear H H0 p1 p2 p3 q1 q2 q3 hsm
  obtain ⟨len, hL⟩ : ∃ m, ns.length = m := ⟨_, rfl⟩
  have HL : Hid (ns.length = len) := hL
  rw [hL] at hn ⊢
  clear hL
  go_enter Try.func82, Try.ntmps82
  go_wp2
  go_loopw [1, 5] (fun m i wr => ∃ (j : Nat) (q : Int), j ≤ len ∧ i = .int .i64 j ∧ m = .int .i64 q ∧ Hid (q = k + szTo ns j) ∧ Hid (MkJ w g c hi k ns ms vs j wr)) (fun _ i _ => len - (intOf i).toNat)
  case atStart => exact ⟨0, k, by omega, rfl, rfl, by show _ = _; rw [szTo_zero]; simp, HH⟩
  case round =>
    clear HH
    obtain ⟨j, q, hj, rfl, rfl, HE, HS⟩ := hrel
    by_cases hlt : j < len
    · have hltI : (j : Int) < (len : Int) := by omega
      have hjk : j < ns.length := by rw [HL.out]; exact hlt
      have hz := HZ.out j (by omega)
      have q0 : 0 ≤ q := by have := HE.out; omega
      have q1 : q ≤ 4398046511104000 := by have := HE.out; omega
      obtain ⟨cur, hcur, hcs, _, hc2⟩ := HS.out.blk
      obtain ⟨v0, hv0⟩ := blk_there (o := j * 4) hcur (by have := HP.out.1; omega)
      have hf : ∀ o, wr.frozen? ⟨g, o, none⟩ = false := fun o => slab_free hcur
      obtain ⟨d1, d2, d3⟩ := hc2 j hjk
      have ND := HS.out.todo j (Nat.le_refl _) hjk
      obtain ⟨W1, hW1⟩ : ∃ W1, wr.setCell ⟨g, j * 4, none⟩ (.bool (q % 3 == 0)) = W1 := ⟨_, rfl⟩
      have hg1 : W1.heap[g]? = some (.cells (cur.setIfInBounds (j * 4) (.bool (q % 3 == 0))) 93 (0, 0)) := hW1 ▸ slab_set hcur _
      have z1 : W1.cell? ⟨g, j * 4 + 1, none⟩ = some (vs j).1 := by rw [slab_cell hg1, Array.getElem?_setIfInBounds_ne (by omega)]; exact d1
      have hmj : g + 1 ≤ ms j := Nat.le_trans HQ.out.1 (ms_le HQ.out.2.1 0 j (Nat.zero_le _) (by omega))
      obtain ⟨_, m1, m2, a1, a2, a3, o1, o2, o3⟩ := ND.same (w' := W1) fun b p _ _ => hW1 ▸ set_other _ (by show g ≠ b; omega)
      obtain ⟨s1, s2, s3⟩ := HM.out j hjk
      have hcall := markS_own (q + 1) o1 s1 (by omega) (by omega)
      have HO : Hid (OwnL 9 W1 m1 m2 (vs j).2.1 (vS (nthN ns j).2.2.1) ∧ OwnL 3 W1 m2 (ms (j + 1)) (vs j).2.2 (vI (nthN ns j).2.2.2) ∧ ms j ≤ m1 ∧ m1 ≤ m2 ∧ m2 ≤ ms (j + 1) ∧ W1.heap[g]? = some (.cells (cur.setIfInBounds (j * 4) (.bool (q % 3 == 0))) 93 (0, 0)) ∧ cur[j * 4 + 2]? = some (vs j).2.1 ∧ cur[j * 4 + 3]? = some (vs j).2.2 ∧ g + 1 ≤ ms j) := ⟨o2, o3, a1, a2, a3, hg1, d2, d3, hmj⟩
      clear hcur hcs hc2 d1 d2 d3 ND hg1 o1 o2 o3 a1 a2 a3 hmj hz
      have HK0 : Hid (∀ l1 l2 l3 : Nat, l1 = (nthN ns j).2.1.length → l2 = (nthN ns j).2.2.1.length → l3 = (nthN ns j).2.2.2.length → nsz (nthN ns j) = 1 + l1 + l2 + l3 ∧ labN (nthN ns j) q = (q % 3 == 0, msS (q + 1) l1, msS (q + 1 + l1) l2, marksL (q + 1 + l1 + l2) l3)) := fun l1 l2 l3 e1 e2 e3 => by subst e1; subst e2; subst e3; exact ⟨rfl, rfl⟩
      obtain ⟨l1, hl1⟩ : ∃ l1, (nthN ns j).2.1.length = l1 := ⟨_, rfl⟩
      obtain ⟨l2, hl2⟩ : ∃ l2, (nthN ns j).2.2.1.length = l2 := ⟨_, rfl⟩
      obtain ⟨l3, hl3⟩ : ∃ l3, (nthN ns j).2.2.2.length = l3 := ⟨_, rfl⟩
      have HLN := HK0.out l1 l2 l3 hl1.symm hl2.symm hl3.symm
      have HLL : Hid ((nthN ns j).2.2.1.length = l2 ∧ (nthN ns j).2.2.2.length = l3) := ⟨hl2, hl3⟩
      rw [hl1] at hcall s1
      rw [hl2] at s2
      rw [hl3] at s3
      have HLE : Hid (nsz (nthN ns j) = 1 + l1 + l2 + l3 ∧ labN (nthN ns j) q = (q % 3 == 0, msS (q + 1) l1, msS (q + 1 + l1) l2, marksL (q + 1 + l1 + l2) l3)) := HLN
      clear HK0 HLN hl1 hl2 hl3
      obtain ⟨v1, hv1⟩ : ∃ v1, (vs j).1 = v1 := ⟨_, rfl⟩
      obtain ⟨v2, hv2⟩ : ∃ v2, (vs j).2.1 = v2 := ⟨_, rfl⟩
      obtain ⟨v3, hv3⟩ : ∃ v3, (vs j).2.2 = v3 := ⟨_, rfl⟩
      have HVS : Hid ((vs j).1 = v1 ∧ (vs j).2.1 = v2 ∧ (vs j).2.2 = v3) := ⟨hv1, hv2, hv3⟩
      rw [hv1] at hcall z1
      rw [hv2, hv3] at HO
      clear hv1 hv2 hv3
      have HW : Hid (wr.setCell ⟨g, j * 4, none⟩ (.bool (q % 3 == 0)) = W1) := hW1
      go_wp2_with fail
      refine hcall.mono ?_
      rintro e w2 ⟨rfl, r1, K1⟩
      have HK1 : Hid (Kept (fun b => ms j ≤ b ∧ b < m1) W1 w2 ∧ OwnL 9 w2 (ms j) m1 v1 (vS (msS (q + 1) l1))) := ⟨K1, r1⟩
      have hg2 : w2.heap[g]? = some (.cells (cur.setIfInBounds (j * 4) (.bool (q % 3 == 0))) 93 (0, 0)) := (K1.block g (slab_lt HO.out.2.2.2.2.2.1) (by have := HO.out; omega)).trans HO.out.2.2.2.2.2.1
      have z2 : w2.cell? ⟨g, j * 4 + 2, none⟩ = some v2 := by rw [slab_cell hg2, Array.getElem?_setIfInBounds_ne (by omega)]; exact HO.out.2.2.2.2.2.2.1
      have o2 : OwnL 9 w2 m1 m2 v2 (vS (nthN ns j).2.2.1) := HO.out.1.same fun b p _ r => K1.block b r (by omega)
      have hcall2 := markS_own (q + 1 + l1) o2 (by rw [HLL.out.1]; exact s2) (by omega) (by omega)
      rw [HLL.out.1] at hcall2
      have HG2 : Hid (w2.heap[g]? = some (.cells (cur.setIfInBounds (j * 4) (.bool (q % 3 == 0))) 93 (0, 0))) := hg2
      clear hcall hg2 z1 K1 r1 o2 hW1 hf hv0
      go_wp2_with fail
      refine hcall2.mono ?_
      rintro e w3 ⟨rfl, r2, K2⟩
      have HK2 : Hid (Kept (fun b => m1 ≤ b ∧ b < m2) w2 w3 ∧ OwnL 9 w3 m1 m2 v2 (vS (msS (q + 1 + l1) l2))) := ⟨K2, r2⟩
      have hg3 : w3.heap[g]? = some (.cells (cur.setIfInBounds (j * 4) (.bool (q % 3 == 0))) 93 (0, 0)) := (K2.block g (slab_lt HG2.out) (by have := HO.out; omega)).trans HG2.out
      have z3 : w3.cell? ⟨g, j * 4 + 3, none⟩ = some v3 := by rw [slab_cell hg3, Array.getElem?_setIfInBounds_ne (by omega)]; exact HO.out.2.2.2.2.2.2.2.1
      have o3 : OwnL 3 w3 m2 (ms (j + 1)) v3 (vI (nthN ns j).2.2.2) := (HO.out.2.1.same fun b p _ r => HK1.out.1.block b r (by have := HO.out; omega)).same fun b p _ r => K2.block b r (by omega)
      have hcall3 := markI_own (q + 1 + l1 + l2) o3 (by rw [HLL.out.2]; exact s3) (by omega) (by omega)
      rw [HLL.out.2] at hcall3
      clear hcall2 hg3 z2 K2 r2 o3
      go_wp2_with fail
      refine hcall3.mono ?_
      rintro e w4 ⟨rfl, r3, K3⟩
      have HN4 : Hid (MkJ w g c hi k ns ms vs (j + 1) w4) := by
        have hm := HO.out
        have k1 := HK1.out.1.mono (S' := fun b => ms j ≤ b ∧ b < ms (j + 1)) fun b p => ⟨p.1, by omega⟩
        have k2 := HK2.out.1.mono (S' := fun b => ms j ≤ b ∧ b < ms (j + 1)) fun b p => ⟨by omega, by omega⟩
        have k3 := K3.mono (S' := fun b => ms j ≤ b ∧ b < ms (j + 1)) fun b p => ⟨by omega, p.2⟩
        refine HS.out.next HQ.out.1 HQ.out.2.1 HQ.out.2.2 (by rw [HL.out]; exact hlt) HP.out.1 ?_ ?_ HP.out.2.2
        · rw [← HE.out, HW.out]
          exact (k1.trans k2).trans k3
        · rw [← HE.out, HLE.out.2, HVS.out.1, HVS.out.2.1, HVS.out.2.2]
          refine ⟨rfl, m1, m2, hm.2.2.1, hm.2.2.2.1, hm.2.2.2.2.1, ?_, ?_, r3⟩
          · exact (HK1.out.2.same fun b _ p r => HK2.out.1.block b r (by omega)).same fun b _ p r => K3.block b r (by omega)
          · exact HK2.out.2.same fun b _ p r => K3.block b r (by omega)
      obtain ⟨q', hq'⟩ : ∃ q' : Int, q + 1 + l1 + l2 + l3 = q' := ⟨_, rfl⟩
      have HE' : Hid (q' = k + szTo ns (j + 1)) := by
        show _ = _
        rw [szTo_succ ns j (by rw [HL.out]; exact hlt)]
        have := HE.out
        have := HLE.out.1
        omega
      rw [hq']
      clear hcall3 K3 r3 z3 HS HK1 HK2 HG2 HO
      go_wp2
      go_roundw
      case rel => exact ⟨j + 1, q', by omega, by go_num, rfl, HE', HN4⟩
      case measure => simp [intOf]; omega
    · obtain rfl : j = len := by omega
      obtain ⟨D1, D2⟩ := MkJ.done (by rw [HL.out]; exact HS.out) HQ.out.1 HQ.out.2.1 HQ.out.2.2 HP.out.1 lo HP.out.2.1 HP.out.2.2
      rw [HL.out] at D1
      have HD : Hid (ForD wr lo hi (.slice (some ⟨g, 0, none⟩) j c) (labF ns k) ∧ Kept (fun b => lo ≤ b ∧ b < hi) w wr) := ⟨D1, D2⟩
      have HV : Hid (q = k + szTo ns j) := HE.out
      clear D1 D2 HS
      go_wp2
      go_ret
      exact ⟨ret_int' HV.out, HD.out.1, HD.out.2⟩
end Go.Proofs.Ythflalpapdaidaa
