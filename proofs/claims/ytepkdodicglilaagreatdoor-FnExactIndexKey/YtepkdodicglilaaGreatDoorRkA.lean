/- What both RowKey answer (stage 9). -/
import Derived.Test.YtepkdodicglilaaGreatDoorKmC
import Derived.Test.YtepkdodicglilaaGreatDoorCrL
namespace Go.Proofs.YtepkdodicglilaaGreatDoor
open Go.RowKit

theorem RowV.take {w : World} {a : Option Addr} {vs : List V3} (h : RowV w a vs) (k : Nat) : RowV w a (vs.take k) := fun i hi => by
  have hi' : i < k ∧ i < vs.length := by rw [List.length_take] at hi; omega
  obtain ⟨b, off, e, hb, hc⟩ := h i hi'.2
  refine ⟨b, off, e, hb, ?_⟩
  have : nthV (vs.take k) i = nthV vs i := by
    unfold nthV
    rw [List.getD_eq_getElem?_getD, List.getD_eq_getElem?_getD, List.getElem?_take_of_lt hi'.1]
  rw [this]; exact hc
theorem okRow_mk {vs : List V3} (h8 : vs.length ≤ 8) (h : ∀ v ∈ vs, okV3 v = true) : okRow vs = true := okRow_good h8 fun _ hj => h _ (nth_mem hj)
theorem okRow_take {vs : List V3} (h : okRow vs = true) (k : Nat) : okRow (vs.take k) = true :=
  okRow_mk (by rw [List.length_take]; have := (okRow_all h).1; omega) fun v hv => (okRow_all h).2 v (List.mem_of_mem_take hv)
theorem crow_ok {tb : Bool} {cs : List TC} {vs : List V3} (h : (crow tb cs vs).1 = 0) : tb = true ∧ okRow vs = true ∧ vs.length = cs.length := by
  unfold crow at h
  by_cases h1 : 4096 < vs.length
  · rw [if_pos h1] at h; cases h
  rw [if_neg h1] at h
  cases h2 : (tb && okRow vs) with
  | false => rw [h2] at h; simp at h
  | true =>
    rw [h2] at h
    have h3 : tb = true ∧ okRow vs = true := by simpa using h2
    refine ⟨h3.1, h3.2, ?_⟩
    simp only [if_true] at h
    unfold rowR at h
    by_cases e : vs.length = cs.length
    · exact e
    · rw [if_pos e] at h; cases h
/-- A row's key bytes. -/
def rkB (tb : Bool) (cs : List TC) (key : Int) (vs : List V3) : List Value := if (crow tb cs vs).1 = 0 then encKey (vs.take key.toNat) else []
theorem encKey_short {vs : List V3} (h : okRow vs = true) : (encKey vs).length ≤ 1040 := by
  obtain ⟨h8, hall⟩ := okRow_all h
  have := keyFlat_len vs hall
  unfold encKey
  omega
theorem rkB_le (tb : Bool) (cs : List TC) (key : Int) (vs : List V3) : (rkB tb cs key vs).length ≤ 4194304 := by
  unfold rkB
  by_cases h : (crow tb cs vs).1 = 0
  · rw [if_pos h]; have := encKey_short (okRow_take (crow_ok h).2.1 key.toNat); omega
  · rw [if_neg h]; exact Nat.zero_le _

set_option maxRecDepth 100000 in
set_option maxHeartbeats 4000000 in
theorem implRowKey_any (nm : ByteArray) (ca : Option Addr) (cc : Nat) (cs : List TC) (key : Int) (xv : Value) (a : Option Addr) (cap : Nat) (vs : List V3) (tb : Bool) (w : World) (hC : RowC w ca cs) (hV : RowV w a vs) (lc : cs.length ≤ 1048576) (lv : vs.length ≤ 1048576) (hcap : vs.length ≤ cap) (hkey : tb = true → 1 ≤ key ∧ key ≤ cs.length) (hT : TabAns 56 w (TbA4 nm (.slice ca cs.length cc) key xv) tb) (hg : ErrT w) :
    Calls Tryz.prog 15 #[TbA4 nm (.slice ca cs.length cc) key xv, .slice a vs.length cap] w fun e w' => ∃ a2 c, e = .returned (.tuple #[.slice a2 (rkB tb cs key vs).length c, .int .i64 (crow tb cs vs).1]) ∧ NewB w.heap.size a2 (rkB tb cs key vs).length ∧ OwnB w' a2 (rkB tb cs key vs).length (byteVal (rkB tb cs key vs)) ∧ Below w.heap.size w w' := by
  obtain ⟨W0, hW0⟩ : ∃ W0, w.alloc (.cells #[.string nm, .slice ca cs.length cc, .int .i64 key, xv] 34) = W0 := ⟨_, rfl⟩
  have B0 : Below w.heap.size w W0 := hW0 ▸ (Below.refl _ _).alloc (Nat.le_refl _) _
  have XB : Hid (W0.heap[w.heap.size]? = some (.cells #[.string nm, .slice ca cs.length cc, .int .i64 key, xv] 34 (0, 0))) := (hW0 ▸ heap_new' _ _ _ rfl : W0.heap[w.heap.size]? = _)
  have l0 : w.heap.size < W0.heap.size := by rw [← hW0]; simp
  have C0 : Hid (∀ {w1 : World}, Below W0.heap.size W0 w1 → w1.cell? ⟨w.heap.size, 0, none⟩ = some (.string nm) ∧ w1.cell? ⟨w.heap.size, 1, none⟩ = some (.slice ca cs.length cc) ∧ w1.cell? ⟨w.heap.size, 2, none⟩ = some (.int .i64 key) ∧ w1.cell? ⟨w.heap.size, 3, none⟩ = some xv) := fun {w1} b => by
    have e : w1.heap[w.heap.size]? = _ := (b.block _ l0).trans XB.out
    exact ⟨slab_cell e, slab_cell e, slab_cell e, slab_cell e⟩
  obtain ⟨q0, q1, q2, q3⟩ := C0.out (Below.refl _ _)
  have HK := checkRow_any nm ca cc cs key xv a cap vs tb W0 (hC.below B0) (hV.below B0) lc lv (fun w1 b => hT w1 (B0.trans (b.mono B0.size)))
  have HG : Hid (∀ W, Below w.heap.size w W → ErrT W) := fun W b => hg.below b hg.2
  have HCO : Hid ((codeE (crowE tb cs vs)).getD 0 = (crow tb cs vs).1) := (crowE_code tb cs vs).1
  by_cases hz : (crow tb cs vs).1 = 0
  · obtain ⟨htb, hok, hlen⟩ := crow_ok hz
    obtain ⟨k0, rfl, hk⟩ : ∃ k0 : Nat, key = (k0 : Int) ∧ k0 ≤ vs.length := ⟨key.toNat, by have := (hkey htb).1; omega, by have := hkey htb; omega⟩
    have hB : rkB tb cs (k0 : Int) vs = encKey (vs.take k0) := by unfold rkB; rw [if_pos hz]; rfl
    have e1 : (vs.take k0).length = k0 := by rw [List.length_take]; omega
    have HKB : Hid (∀ W, Below w.heap.size w W → Calls Tryz.prog 39 #[.slice a k0 cap] W fun e w' => ∃ g c, e = .returned (.tuple #[.slice (some ⟨g, 0, none⟩) (encKey (vs.take k0)).length c, .int .i64 0]) ∧ W.heap.size ≤ g ∧ OwnB w' (some ⟨g, 0, none⟩) (encKey (vs.take k0)).length (byteVal (encKey (vs.take k0))) ∧ Below W.heap.size W w') := fun W b => by
      have := implKeyBytes_ok a cap (vs.take k0) W ((hV.below b).take k0) (okRow_take hok k0)
      rw [e1] at this
      exact this
    rw [hz] at HCO
    rw [hz, hB]
    obtain ⟨E, hE⟩ : ∃ E, crowE tb cs vs = E := ⟨_, rfl⟩
    rw [hE] at HK HCO
    have hcapk : k0 ≤ cap := by omega
    clear hz hC hV hT hg hB hE hlen hok htb hkey e1
    obtain ⟨en, hen⟩ : ∃ en, (encKey (vs.take k0)).length = en := ⟨_, rfl⟩
    rw [hen] at HKB ⊢
    clear hen
    generalize vs.length = lvn at *
    generalize byteVal (encKey (vs.take k0)) = fb at *
    go_enter Tryz.func15, Tryz.ntmps15
    go_wp2_with fail
    refine HK.mono ?_
    rintro e w1 ⟨rfl, b1⟩
    have B1 := B0.trans (b1.mono B0.size)
    clear HK q0 q1 q2 q3
    have hcd := codeIn_any E w1 (HG.out _ B1)
    rw [HCO.out] at hcd
    go_wp2_with fail
    refine hcd.mono ?_
    rintro e w2 ⟨rfl, b2⟩
    have B2 := B1.trans (b2.mono B1.size)
    obtain ⟨q0, q1, q2, q3⟩ := C0.out (b1.trans (b2.mono b1.size))
    clear hcd b1 b2
    go_wp2_with fail
    refine (HKB.out _ B2).mono ?_
    rintro e w3 ⟨g, c, rfl, hg1, ho, b3⟩
    have B3 := B2.trans (b3.mono B2.size)
    have HO : Hid (OwnB w3 (some ⟨g, 0, none⟩) en fb) := ho
    have hgn : w.heap.size ≤ g := Nat.le_trans B2.size hg1
    clear ho b3
    go_wp2
    go_ret2
    exact ⟨some ⟨g, 0, none⟩, c, rfl, .inr ⟨g, rfl, hgn⟩, HO.out, B3⟩
  · have hB : rkB tb cs key vs = [] := by unfold rkB; rw [if_neg hz]
    rw [hB]
    obtain ⟨E, hE⟩ : ∃ E, crowE tb cs vs = E := ⟨_, rfl⟩
    rw [hE] at HK HCO
    obtain ⟨cd, hcd0⟩ : ∃ cd, (crow tb cs vs).1 = cd := ⟨_, rfl⟩
    rw [hcd0] at HCO hz ⊢
    have hzb : (cd != 0) = true := by simpa using hz
    clear hC hV hT hg hB hE hkey hcd0
    generalize vs.length = lvn at *
    go_enter Tryz.func15, Tryz.ntmps15
    go_wp2_with fail
    refine HK.mono ?_
    rintro e w1 ⟨rfl, b1⟩
    have B1 := B0.trans (b1.mono B0.size)
    clear HK q0 q1 q2 q3
    have hcd := codeIn_any E w1 (HG.out _ B1)
    rw [HCO.out] at hcd
    go_wp2_with fail
    refine hcd.mono ?_
    rintro e w2 ⟨rfl, b2⟩
    have B2 := B1.trans (b2.mono B1.size)
    clear hcd b1 b2 hz
    go_wp2
    go_ret2
    exact ⟨none, 0, rfl, .inl ⟨rfl, rfl⟩, .inl rfl, B2⟩

set_option maxRecDepth 100000 in
set_option maxHeartbeats 4000000 in
theorem specRowKey_any (nm : ByteArray) (ca : Option Addr) (cc : Nat) (cs : List TC) (key : Int) (xv : Value) (a : Option Addr) (cap : Nat) (vs : List V3) (tb : Bool) (w : World) (hC : RowC w ca cs) (hV : RowV w a vs) (lc : cs.length ≤ 1048576) (lv : vs.length ≤ 1048576) (hcap : vs.length ≤ cap) (hkey : tb = true → 1 ≤ key ∧ key ≤ cs.length) (hT : TabAns 26 w (TbA4 nm (.slice ca cs.length cc) key xv) tb) :
    Calls Tryz.prog 14 #[TbA4 nm (.slice ca cs.length cc) key xv, .slice a vs.length cap] w fun e w' => ∃ a2 c, e = .returned (.tuple #[.slice a2 (rkB tb cs key vs).length c, .int .i64 (crow tb cs vs).1]) ∧ ReadB w' a2 (rkB tb cs key vs).length (byteVal (rkB tb cs key vs)) ∧ Below w.heap.size w w' := by
  obtain ⟨W0, hW0⟩ : ∃ W0, w.alloc (.cells #[.string nm, .slice ca cs.length cc, .int .i64 key, xv] 34) = W0 := ⟨_, rfl⟩
  have B0 : Below w.heap.size w W0 := hW0 ▸ (Below.refl _ _).alloc (Nat.le_refl _) _
  have XB : Hid (W0.heap[w.heap.size]? = some (.cells #[.string nm, .slice ca cs.length cc, .int .i64 key, xv] 34 (0, 0))) := (hW0 ▸ heap_new' _ _ _ rfl : W0.heap[w.heap.size]? = _)
  have l0 : w.heap.size < W0.heap.size := by rw [← hW0]; simp
  have C0 : Hid (∀ {w1 : World}, Below W0.heap.size W0 w1 → w1.cell? ⟨w.heap.size, 0, none⟩ = some (.string nm) ∧ w1.cell? ⟨w.heap.size, 1, none⟩ = some (.slice ca cs.length cc) ∧ w1.cell? ⟨w.heap.size, 2, none⟩ = some (.int .i64 key) ∧ w1.cell? ⟨w.heap.size, 3, none⟩ = some xv) := fun {w1} b => by
    have e : w1.heap[w.heap.size]? = _ := (b.block _ l0).trans XB.out
    exact ⟨slab_cell e, slab_cell e, slab_cell e, slab_cell e⟩
  obtain ⟨q0, q1, q2, q3⟩ := C0.out (Below.refl _ _)
  have HK := specCheckRow_any nm ca cc cs key xv a cap vs tb W0 (hC.below B0) (hV.below B0) lc lv (fun w1 b => hT w1 (B0.trans (b.mono B0.size)))
  by_cases hz : (crow tb cs vs).1 = 0
  · obtain ⟨htb, hok, hlen⟩ := crow_ok hz
    obtain ⟨k0, rfl, hk⟩ : ∃ k0 : Nat, key = (k0 : Int) ∧ k0 ≤ vs.length := ⟨key.toNat, by have := (hkey htb).1; omega, by have := hkey htb; omega⟩
    have hB : rkB tb cs (k0 : Int) vs = encKey (vs.take k0) := by unfold rkB; rw [if_pos hz]; rfl
    have e1 : (vs.take k0).length = k0 := by rw [List.length_take]; omega
    have hok2 := okRow_take hok k0
    have HKB : Hid (∀ W, Below w.heap.size w W → Calls Tryz.prog 38 #[.slice a k0 cap] W fun e w' => ∃ a2 c, e = .returned (.slice a2 (encKey (vs.take k0)).length c) ∧ ReadB w' a2 (encKey (vs.take k0)).length (byteVal (encKey (vs.take k0))) ∧ Below W.heap.size W w') := fun W b => by
      have := l01Key_any a cap (vs.take k0) W ((hV.below b).take k0) (by have := (okRow_all hok2).1; omega) (okRow_all hok2).2
      rw [e1] at this
      refine this.mono ?_
      rintro e w' ⟨v, rfl, ho, hb⟩
      obtain ⟨a2, c, rfl, hr⟩ := own_read ho (encKey_bytes hok2)
      exact ⟨a2, c, rfl, hr, hb⟩
    have hn : ¬ (4096 : Int) < (vs.length : Int) := by have := (okRow_all hok).1; omega
    rw [hz] at HK ⊢
    rw [hB]
    have hcapk : k0 ≤ cap := by omega
    clear hz hC hV hT hB hlen hok htb hkey e1 hok2
    obtain ⟨en, hen⟩ : ∃ en, (encKey (vs.take k0)).length = en := ⟨_, rfl⟩
    rw [hen] at HKB ⊢
    clear hen
    generalize (crow tb cs vs).2 = z2 at *
    generalize byteVal (encKey (vs.take k0)) = fb at *
    generalize vs.length = lvn at *
    go_enter Tryz.func14, Tryz.ntmps14
    go_wp2_with fail
    refine HK.mono ?_
    rintro e w1 ⟨rfl, b1⟩
    have B1 := B0.trans (b1.mono B0.size)
    clear HK q0 q1 q2 q3
    obtain ⟨q0, q1, q2, q3⟩ := C0.out b1
    clear b1
    go_wp2_with fail
    refine (HKB.out _ B1).mono ?_
    rintro e w3 ⟨a2, c, rfl, hr, b3⟩
    have B3 := B1.trans (b3.mono B1.size)
    have HO : Hid (ReadB w3 a2 en fb) := hr
    clear hr b3
    go_wp2
    go_ret2
    exact ⟨a2, c, rfl, HO.out, B3⟩
  · have hB : rkB tb cs key vs = [] := by unfold rkB; rw [if_neg hz]
    rw [hB]
    by_cases hbig : (4096 : Int) < (vs.length : Int)
    · have HC2 : Hid ((crow tb cs vs).1 = 2) := by show _ = _; unfold crow; rw [if_pos (by omega)]
      clear hC hV hT hB hkey hz HK
      generalize vs.length = lvn at *
      go_enter Tryz.func14, Tryz.ntmps14
      go_wp2
      go_ret2
      exact ⟨some ⟨W0.heap.size, 0, none⟩, 0, by rw [HC2.out]; rfl, fun i hi => by simp at hi, B0.alloc B0.size _⟩
    · obtain ⟨cd, hcd0⟩ : ∃ cd, (crow tb cs vs).1 = cd := ⟨_, rfl⟩
      rw [hcd0] at HK hz ⊢
      have hzb : (cd != 0) = true := by simpa using hz
      clear hC hV hT hB hkey hcd0
      generalize (crow tb cs vs).2 = z2 at *
      generalize vs.length = lvn at *
      go_enter Tryz.func14, Tryz.ntmps14
      go_wp2_with fail
      refine HK.mono ?_
      rintro e w1 ⟨rfl, b1⟩
      have B1 := B0.trans (b1.mono B0.size)
      clear HK q0 q1 q2 q3 b1 hz
      go_wp2
      go_ret2
      exact ⟨some ⟨w1.heap.size, 0, none⟩, 0, rfl, fun i hi => by simp at hi, B1.alloc B1.size _⟩
end Go.Proofs.YtepkdodicglilaaGreatDoor
