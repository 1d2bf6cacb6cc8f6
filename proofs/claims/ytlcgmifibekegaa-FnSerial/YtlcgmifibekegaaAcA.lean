/- What the law on orders asks (stage 8). -/
import Derived.Test.YtlcgmifibekegaaOrG
namespace Go.Proofs.Ytlcgmifibekegaa
open Go.RowKit

/-- The first place of x, or -1. -/
noncomputable def plI (L : List Int) (x : Int) : Int := open Classical in if h : ∃ k : Nat, k < L.length ∧ nthI L k = x ∧ ∀ j, j < k → nthI L j ≠ x then (h.choose : Int) else -1
theorem plI_at {L : List Int} {x : Int} {k : Nat} (hk : k < L.length) (hx : nthI L k = x) (hn : ∀ j, j < k → nthI L j ≠ x) : plI L x = k := by
  have h : ∃ k : Nat, k < L.length ∧ nthI L k = x ∧ ∀ j, j < k → nthI L j ≠ x := ⟨k, hk, hx, hn⟩
  unfold plI
  rw [dif_pos h]
  obtain ⟨h1, h2, h3⟩ := h.choose_spec
  rcases Nat.lt_trichotomy h.choose k with q | q | q
  · exact absurd h2 (hn _ q)
  · exact congrArg Int.ofNat q
  · exact absurd hx (h3 _ q)
theorem plI_none {L : List Int} {x : Int} (hn : ∀ j, j < L.length → nthI L j ≠ x) : plI L x = -1 := by
  unfold plI
  rw [dif_neg]
  rintro ⟨k, h1, h2, _⟩
  exact hn k h1 h2
theorem first_of {L : List Int} {x : Int} : ∀ k, k < L.length → nthI L k = x → ∃ j : Nat, j ≤ k ∧ j < L.length ∧ nthI L j = x ∧ ∀ i, i < j → nthI L i ≠ x := by
  intro k
  induction k using Nat.strongRecOn with
  | ind k ih =>
    intro hk hx
    by_cases h : ∃ i, i < k ∧ nthI L i = x
    · obtain ⟨i, hi, e⟩ := h
      obtain ⟨j, h1, h2, h3, h4⟩ := ih i hi (by omega) e
      exact ⟨j, by omega, h2, h3, h4⟩
    · exact ⟨k, Nat.le_refl _, hk, hx, fun i hi e => h ⟨i, hi, e⟩⟩
theorem plI_mem {L : List Int} {x : Int} (h : x ∈ L) : ∃ k : Nat, plI L x = k ∧ k < L.length ∧ nthI L k = x := by
  obtain ⟨i, hi, e⟩ := List.mem_iff_getElem.1 h
  obtain ⟨j, _, h2, h3, h4⟩ := first_of (x := x) i hi (by rw [nthI_get hi]; exact e)
  exact ⟨j, plI_at h2 h3 h4, h2, h3⟩
theorem plI_le {L : List Int} {x : Int} {k : Nat} (hk : k < L.length) (hx : nthI L k = x) : plI L x ≤ k := by
  obtain ⟨j, h1, h2, h3, h4⟩ := first_of k hk hx
  rw [plI_at h2 h3 h4]; omega
theorem RunV.all {es : List P2} {ns L : List Int} (h : RunV es ns L) (hl : ¬ L.length < ns.length) : ∀ x, x ∈ ns → x ∈ L := fun x hx => by
  have h1 := h.len
  have h2 : (ns.filter (fun y => decide (y ∉ L))).length = 0 := by omega
  have h3 := List.length_eq_zero_iff.1 h2
  refine Classical.byContradiction (fun hn => ?_)
  have : x ∈ ns.filter (fun y => decide (y ∉ L)) := List.mem_filter.2 ⟨hx, by simpa using hn⟩
  rw [h3] at this
  cases this
theorem RunV.ahead {es : List P2} {ns L : List Int} (h : RunV es ns L) (hl : ¬ L.length < ns.length) {i : Nat} (hi : i < es.length) (h1 : (nthP es i).1 ∈ ns) (h2 : (nthP es i).2 ∈ ns) : plI L (nthP es i).1 < plI L (nthP es i).2 := by
  obtain ⟨k, e, hk, hx⟩ := plI_mem (h.all hl _ h2)
  obtain ⟨⟨_, hf⟩, _⟩ := h.at k hk
  have hq := hf i hi
  rw [← nthI_get hk, hx] at hq
  have hm : (nthP es i).1 ∈ L.take k := Classical.byContradiction (fun hn => hq ⟨rfl, h1, hn⟩)
  obtain ⟨j, hj, ej⟩ := List.mem_iff_getElem.1 hm
  rw [List.length_take] at hj
  rw [List.getElem_take] at ej
  have := plI_le (L := L) (x := (nthP es i).1) (k := j) (by omega) (by rw [nthI_get (by omega)]; exact ej)
  omega
theorem nodup_le : ∀ (ns L : List Int), ns.Nodup → (∀ x, x ∈ ns → x ∈ L) → ns.length ≤ L.length
  | [], _, _, _ => Nat.zero_le _
  | x :: t, L, hn, hs => by
    have hx := hs x (List.mem_cons_self ..)
    have hn2 := List.nodup_cons.1 hn
    have h1 := nodup_le t (L.erase x) hn2.2 (fun y hy => (List.mem_erase_of_ne (fun e => by subst e; exact hn2.1 hy)).2 (hs y (List.mem_cons_of_mem _ hy)))
    have h2 := List.length_erase_of_mem hx
    have h3 := List.length_pos_of_mem hx
    simp only [List.length_cons]
    omega
theorem left_some {ns L : List Int} (hn : ns.Nodup) (hl : L.length < ns.length) : ∃ x, LeftV ns L x := by
  refine Classical.byContradiction (fun h => ?_)
  have := nodup_le ns L hn (fun x hx => Classical.byContradiction (fun q => h ⟨x, hx, q⟩))
  omega
/-- Those that are stuck are never taken away. -/
theorem stuck_step {es : List P2} {ns L Rs : List Int} (hd : DoneV es ns L) (hs : ∀ x, LeftV ns L x → x ∈ Rs) {k : Nat} (hk : k < Rs.length) (hok : okJ es Rs (nthI Rs k) es.length = true) : ∀ x, LeftV ns L x → x ∈ Rs.take k ++ Rs.drop (k + 1) := fun x hx => by
  have hf := asB_is hok
  have hne : ¬ LeftV ns L (nthI Rs k) := fun hl => hd _ ⟨hl, fun e he ⟨q1, q2⟩ => hf e he ⟨q1, hs _ q2⟩⟩
  have e : Rs = Rs.take k ++ nthI Rs k :: Rs.drop (k + 1) := by rw [nthI_get hk, List.getElem_cons_drop, List.take_append_drop]
  have hm := hs x hx
  rw [e] at hm
  rcases List.mem_append.1 hm with q | q
  · exact List.mem_append_left _ q
  · rcases List.mem_cons.1 q with q | q
    · exact absurd hx (q ▸ hne)
    · exact List.mem_append_right _ q

theorem hasInt_any (a : Option Addr) (c : Nat) (ss : List Int) (p : Int) (w : World) (h : RowI w a ss) (hl : ss.length ≤ 1048576) :
    Calls Try.prog 27 #[.slice a ss.length c, .int .i64 p] w fun r w' => r = .returned (.bool (ss.any (fun x => x == p))) ∧ w' = w := by
  have H : Hid (RowI w a ss) := h
  clear h
  obtain ⟨x, hx⟩ : ∃ x, ss.length = x := ⟨_, rfl⟩
  have HX : Hid (ss.length = x) := hx
  rw [hx] at hl ⊢
  clear hx
  go_enter Try.func27, Try.ntmps27
  go_wp2
  go_loop [5] (fun i => ∃ k : Nat, k ≤ x ∧ i = .int .i64 k ∧ ∀ j, j < k → nthI ss j ≠ p) (fun i => x - (intOf i).toNat)
  case atStart => exact ⟨0, by omega, rfl, fun j hj => by omega⟩
  case round =>
    obtain ⟨k, hk, rfl, hA⟩ := hrel
    have HA : Hid (∀ j, j < k → nthI ss j ≠ p) := hA
    clear hA
    by_cases hlt : k < x
    · obtain ⟨b, off, rfl, hlb, hc⟩ := H.out k (by rw [HX.out]; exact hlt)
      obtain ⟨u, hu⟩ : ∃ u, nthI ss k = u := ⟨_, rfl⟩
      have HU : Hid (nthI ss k = u) := hu
      rw [hu] at hc
      clear hu
      by_cases q : u = p
      · go_wp2
        go_ret
        exact ⟨ret_bool' (any_true_of (k := k) (by rw [HX.out]; exact hlt) (HU.out.trans q)).symm, rfl⟩
      go_wp2
      go_round
      case rel => exact ⟨k + 1, by omega, by go_num, all_step' (P := fun j => nthI ss j ≠ p) HA.out (by rw [HU.out]; exact q)⟩
      case measure => simp [intOf]; omega
    · obtain rfl : k = x := by omega
      go_wp2
      go_ret
      exact ⟨ret_bool' (any_false_of (by rw [HX.out]; exact HA.out)).symm, rfl⟩

theorem sameI_same (a1 a2 : Option Addr) (c1 c2 : Nat) (ss : List Int) (w : World) (h1 : RowI w a1 ss) (h2 : RowI w a2 ss) (hlen : ss.length ≤ 1048576) :
    Calls Try.prog 19 #[.slice a1 ss.length c1, .slice a2 ss.length c2] w fun e w' => e = .returned (.bool true) ∧ Below w.heap.size w w' := by
  have H1 : Hid (RowI w a1 ss) := h1
  have H2 : Hid (RowI w a2 ss) := h2
  clear h1 h2
  generalize hL : ss.length = len at *
  have HL : Hid (ss.length = len) := hL
  clear hL
  go_enter Try.func19, Try.ntmps19
  go_wp2
  go_loopw [5] (fun i wr => ∃ k : Nat, k ≤ len ∧ i = .int .i64 k ∧ Below w.heap.size w wr) (fun i _ => len - (intOf i).toNat)
  case atStart => exact ⟨0, by omega, rfl, Below.refl _ _⟩
  case round =>
    obtain ⟨k, hk, rfl, hbl⟩ := hrel
    by_cases hlt : k < len
    · obtain ⟨b1, o1, rfl, hlb1, hc1⟩ := (H1.out.below hbl) k (by rw [HL.out]; exact hlt)
      obtain ⟨b2, o2, rfl, hlb2, hc2⟩ := (H2.out.below hbl) k (by rw [HL.out]; exact hlt)
      go_wp2_with fail
      go_quiet (fail)
      go_wp2
      go_roundw
      case rel => exact ⟨k + 1, by omega, by go_num, below_drewN hbl _⟩
      case measure => simp [intOf]; omega
    · go_wp2
      go_ret
      exact ⟨rfl, hbl⟩

theorem sameI_own {w : World} {B B' : Nat} {v v' : Value} {l : List Int} (h : OwnI w B v l) (h' : OwnI w B' v' l) (hl : l.length ≤ 1048576) : Calls Try.prog 19 #[v, v'] w fun r w' => r = .returned (.bool true) ∧ Below w.heap.size w w' := by
  obtain ⟨a, c, rfl, r, _⟩ := h.row
  obtain ⟨a', c', rfl, r', _⟩ := h'.row
  exact sameI_same a a' c c' l w r r' hl
theorem place_any (a : Option Addr) (c : Nat) (ss : List Int) (p : Int) (w : World) (h : RowI w a ss) (hl : ss.length ≤ 1048576) :
    Calls Try.prog 28 #[.slice a ss.length c, .int .i64 p] w fun r w' => r = .returned (.int .i64 (plI ss p)) ∧ w' = w := by
  have H : Hid (RowI w a ss) := h
  clear h
  obtain ⟨x, hx⟩ : ∃ x, ss.length = x := ⟨_, rfl⟩
  have HX : Hid (ss.length = x) := hx
  rw [hx] at hl ⊢
  clear hx
  go_enter Try.func28, Try.ntmps28
  go_wp2
  go_loop [5] (fun i => ∃ k : Nat, k ≤ x ∧ i = .int .i64 k ∧ ∀ j, j < k → nthI ss j ≠ p) (fun i => x - (intOf i).toNat)
  case atStart => exact ⟨0, by omega, rfl, fun j hj => by omega⟩
  case round =>
    obtain ⟨k, hk, rfl, hA⟩ := hrel
    have HA : Hid (∀ j, j < k → nthI ss j ≠ p) := hA
    clear hA
    by_cases hlt : k < x
    · obtain ⟨b, off, rfl, hlb, hc⟩ := H.out k (by rw [HX.out]; exact hlt)
      obtain ⟨u, hu⟩ : ∃ u, nthI ss k = u := ⟨_, rfl⟩
      have HU : Hid (nthI ss k = u) := hu
      rw [hu] at hc
      clear hu
      by_cases q : u = p
      · go_wp2
        go_ret
        exact ⟨by rw [plI_at (by rw [HX.out]; exact hlt) (HU.out.trans q) HA.out]; rfl, rfl⟩
      go_wp2
      go_round
      case rel => exact ⟨k + 1, by omega, by go_num, all_step' (P := fun j => nthI ss j ≠ p) HA.out (by rw [HU.out]; exact q)⟩
      case measure => simp [intOf]; omega
    · obtain rfl : k = x := by omega
      go_wp2
      go_ret
      exact ⟨by rw [plI_none (by rw [HX.out]; exact HA.out)]; rfl, rfl⟩

end Go.Proofs.Ytlcgmifibekegaa
