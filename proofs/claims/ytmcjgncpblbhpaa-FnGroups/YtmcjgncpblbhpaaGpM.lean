/- Groups: plain mathematics (stage 13). -/
import Derived.Test.YtmcjgncpblbhpaaKsE
namespace Go.Proofs.Ytmcjgncpblbhpaa

variable {lt : Nat → Nat → Bool}
/-- Neither is ahead. -/
def Alk (lt : Nat → Nat → Bool) (x y : Nat) : Prop := lt x y = false ∧ lt y x = false
theorem Alk.symm {x y : Nat} (h : Alk lt x y) : Alk lt y x := ⟨h.2, h.1⟩
theorem Alk.trans (ho : LtO lt) {x y z : Nat} (h1 : Alk lt x y) (h2 : Alk lt y z) : Alk lt x z := ⟨ho.trans z y x h2.1 h1.1, ho.trans x y z h1.2 h2.2⟩
theorem lt_alk (ho : LtO lt) {x y z : Nat} (h1 : lt x y = true) (h2 : Alk lt y z) : lt x z = true := ho.step (ho.irr x) h1 h2.2
theorem alk_lt (ho : LtO lt) {x y z : Nat} (h1 : Alk lt x y) (h2 : lt y z = true) : lt x z = true := ho.step h1.2 h2 (ho.irr z)
theorem lt_lt (ho : LtO lt) {x y z : Nat} (h1 : lt x y = true) (h2 : lt y z = true) : lt x z = true := ho.step (ho.irr x) h1 (ho.asym _ _ h2)
/-- Lists that part L: none is empty, those in one are alike, one list is ahead of the next. -/
structure Runs (lt : Nat → Nat → Bool) (G : List (List Nat)) : Prop where
  ne : ∀ g ∈ G, g ≠ []
  inn : ∀ g ∈ G, g.Pairwise (fun x y => x < y ∧ Alk lt x y)
  out : G.Pairwise (fun g h => ∀ x ∈ g, ∀ y ∈ h, lt x y = true)
theorem Runs.nil : Runs lt [] := ⟨fun g hg => by simp at hg, fun g hg => by simp at hg, List.Pairwise.nil⟩
theorem Runs.ro (ho : LtO lt) {G : List (List Nat)} (h : Runs lt G) : G.flatten.Pairwise (RO lt) := by
  rw [List.pairwise_flatten]
  refine ⟨fun g hg => (h.inn g hg).imp fun ⟨h1, h2⟩ => ⟨h2.2, fun _ => h1⟩, h.out.imp fun hh x hx y hy => ?_⟩
  have := hh x hx y hy
  exact ⟨ho.asym _ _ this, fun e => by rw [this] at e; cases e⟩
theorem runs_uniq : ∀ {G H : List (List Nat)}, Runs lt G → Runs lt H → G.flatten = H.flatten → G = H
  | [], [], _, _, _ => rfl
  | [], h :: H, _, hH, e => by
    exfalso
    rw [List.flatten_nil, List.flatten_cons] at e
    exact hH.ne h (by simp) (List.append_eq_nil_iff.1 e.symm).1
  | g :: G, [], hG, _, e => by
    exfalso
    rw [List.flatten_nil, List.flatten_cons] at e
    exact hG.ne g (by simp) (List.append_eq_nil_iff.1 e).1
  | g :: G, h :: H, hG, hH, e => by
    have key : ∀ {g h : List Nat} {G H : List (List Nat)} {a : List Nat}, Runs lt (g :: G) → Runs lt (h :: H) → h = g ++ a → G.flatten = a ++ H.flatten → a = [] := fun {g h G H a} hG hH e1 e2 => by
      cases a with
      | nil => rfl
      | cons y a =>
        exfalso
        obtain ⟨x, hx⟩ := List.exists_mem_of_ne_nil g (hG.ne g (by simp))
        have hy : y ∈ G.flatten := by rw [e2]; simp
        obtain ⟨g2, hg2, hy2⟩ := List.mem_flatten.1 hy
        have l1 := (List.pairwise_cons.1 hG.out).1 g2 hg2 x hx y hy2
        have l2 := hH.inn h (by simp)
        rw [e1] at l2
        have l3 := ((List.pairwise_append.1 l2).2.2 x hx y (by simp)).2.1
        rw [l1] at l3; cases l3
    have tl : ∀ {g : List Nat} {G : List (List Nat)}, Runs lt (g :: G) → Runs lt G := fun h => ⟨fun x hx => h.ne x (List.mem_cons_of_mem _ hx), fun x hx => h.inn x (List.mem_cons_of_mem _ hx), (List.pairwise_cons.1 h.out).2⟩
    rw [List.flatten_cons, List.flatten_cons] at e
    rcases List.append_eq_append_iff.1 e with ⟨a, e1, e2⟩ | ⟨a, e1, e2⟩
    · have := key hG hH e1 e2
      subst this
      rw [List.append_nil] at e1
      subst e1
      rw [runs_uniq (tl hG) (tl hH) (by simpa using e2)]
    · have := key hH hG e1 e2
      subst this
      rw [List.append_nil] at e1
      subst e1
      rw [runs_uniq (tl hG) (tl hH) (by simpa using e2.symm)]
/-- Groups of the numbers below n. -/
def Grp (lt : Nat → Nat → Bool) (n : Nat) (G : List (List Nat)) : Prop := G.flatten.Perm (List.range n) ∧ Runs lt G
theorem grp_uniq (ho : LtO lt) {n : Nat} {G H : List (List Nat)} (h1 : Grp lt n G) (h2 : Grp lt n H) : G = H :=
  runs_uniq h1.2 h2.2 (srt_uniq h1.1 (h1.2.ro ho) h2.1 (h2.2.ro ho))
/-- One more, alike to those of the last list. -/
theorem Runs.more (ho : LtO lt) {P : List (List Nat)} {g : List Nat} {y x : Nat} (h : Runs lt (P ++ [y :: g])) (hr : ((P ++ [y :: g]).flatten ++ [x]).Pairwise (RO lt)) (ha : Alk lt y x) : Runs lt (P ++ [y :: (g ++ [x])]) := by
  have hin := h.inn (y :: g) (by simp)
  have hp := List.pairwise_append.1 h.out
  have al : ∀ z ∈ y :: g, Alk lt z x := fun z hz => by
    rcases List.mem_cons.1 hz with rfl | hz
    · exact ha
    · exact (((List.pairwise_cons.1 hin).1 z hz).2.symm).trans ho ha
  refine ⟨fun k hk => ?_, fun k hk => ?_, List.pairwise_append.2 ⟨hp.1, by simp, fun k hk m hm a hak b hbm => ?_⟩⟩
  · rcases List.mem_append.1 hk with h' | h'
    · exact h.ne k (List.mem_append_left _ h')
    · simp at h'; rw [h']; simp
  · rcases List.mem_append.1 hk with h' | h'
    · exact h.inn k (List.mem_append_left _ h')
    · simp at h'
      rw [h', ← List.cons_append]
      refine List.pairwise_append.2 ⟨hin, by simp, fun z hz w hw => ?_⟩
      simp at hw
      subst hw
      have hz2 : z ∈ (P ++ [y :: g]).flatten := by rw [List.flatten_append]; exact List.mem_append_right _ (by simpa using hz)
      exact ⟨((List.pairwise_append.1 hr).2.2 z hz2 w (by simp)).2 (al z hz).1, al z hz⟩
  · simp at hm
    subst hm
    rw [← List.cons_append] at hbm
    rcases List.mem_append.1 hbm with h' | h'
    · exact hp.2.2 k hk (y :: g) (by simp) a hak b h'
    · simp at h'
      subst h'
      exact lt_alk ho (hp.2.2 k hk (y :: g) (by simp) a hak y (by simp)) ha
/-- One more, behind those of the last list. -/
theorem Runs.next (ho : LtO lt) {P : List (List Nat)} {g : List Nat} {y x : Nat} (h : Runs lt (P ++ [y :: g])) (ha : lt y x = true) : Runs lt ((P ++ [y :: g]) ++ [[x]]) := by
  have hin := h.inn (y :: g) (by simp)
  have hp := List.pairwise_append.1 h.out
  refine ⟨fun k hk => ?_, fun k hk => ?_, List.pairwise_append.2 ⟨h.out, by simp, fun k hk m hm a hak b hbm => ?_⟩⟩
  · rcases List.mem_append.1 hk with h' | h'
    · exact h.ne k h'
    · simp at h'; rw [h']; simp
  · rcases List.mem_append.1 hk with h' | h'
    · exact h.inn k h'
    · simp at h'; rw [h']; simp
  · simp at hm
    subst hm
    simp at hbm
    subst hbm
    rcases List.mem_append.1 hk with h' | h'
    · exact lt_lt ho (hp.2.2 k h' (y :: g) (by simp) a hak y (by simp)) ha
    · simp at h'
      subst h'
      rcases List.mem_cons.1 hak with rfl | hz
      · exact ha
      · exact alk_lt ho ((List.pairwise_cons.1 hin).1 a hz).2.symm ha
theorem Runs.one (x : Nat) : Runs lt [[x]] := ⟨fun g hg => by simp at hg; rw [hg]; simp, fun g hg => by simp at hg; rw [hg]; simp, by simp⟩
/-- The greatest number put into a list that it is alike to. -/
theorem Grp.into (ho : LtO lt) {n : Nat} {A B : List (List Nat)} {b : List Nat} {y : Nat} (h : Grp lt n (A ++ (y :: b) :: B)) (ha : Alk lt y n) : Grp lt (n + 1) (A ++ (y :: (b ++ [n])) :: B) := by
  obtain ⟨hp, hr⟩ := h
  have hlt : ∀ g ∈ A ++ (y :: b) :: B, ∀ x ∈ g, x < n := fun g hg x hx => List.mem_range.1 (hp.mem_iff.1 (List.mem_flatten.2 ⟨g, hg, hx⟩))
  have hin := hr.inn (y :: b) (by simp)
  have al : ∀ z ∈ y :: b, Alk lt z n := fun z hz => by
    rcases List.mem_cons.1 hz with rfl | hz
    · exact ha
    · exact (((List.pairwise_cons.1 hin).1 z hz).2.symm).trans ho ha
  obtain ⟨o1, o2, o3⟩ := List.pairwise_append.1 hr.out
  obtain ⟨o4, o5⟩ := List.pairwise_cons.1 o2
  refine ⟨?_, fun k hk => ?_, fun k hk => ?_, List.pairwise_append.2 ⟨o1, List.pairwise_cons.2 ⟨fun m hm a hak c hcm => ?_, o5⟩, fun k hk m hm a hak c hcm => ?_⟩⟩
  · rw [List.range_succ]
    have e1 : (A ++ (y :: (b ++ [n])) :: B).flatten = A.flatten ++ ((y :: b) ++ ([n] ++ B.flatten)) := by simp
    have e2 : (A ++ (y :: b) :: B).flatten = A.flatten ++ ((y :: b) ++ B.flatten) := by simp
    rw [e1]
    rw [e2] at hp
    refine List.Perm.trans ?_ (hp.append_right [n])
    rw [List.append_assoc, List.append_assoc]
    exact (List.perm_append_comm.append_left _).append_left _
  · rcases List.mem_append.1 hk with h' | h'
    · exact hr.ne k (List.mem_append_left _ h')
    · rcases List.mem_cons.1 h' with rfl | h'
      · simp
      · exact hr.ne k (List.mem_append_right _ (List.mem_cons_of_mem _ h'))
  · rcases List.mem_append.1 hk with h' | h'
    · exact hr.inn k (List.mem_append_left _ h')
    · rcases List.mem_cons.1 h' with rfl | h'
      · rw [← List.cons_append]
        refine List.pairwise_append.2 ⟨hin, by simp, fun z hz w hw => ?_⟩
        simp at hw
        subst hw
        exact ⟨hlt (y :: b) (by simp) z hz, al z hz⟩
      · exact hr.inn k (List.mem_append_right _ (List.mem_cons_of_mem _ h'))
  · rw [← List.cons_append] at hak
    rcases List.mem_append.1 hak with h' | h'
    · exact o4 m hm a h' c hcm
    · simp at h'
      subst h'
      exact alk_lt ho ha.symm (o4 m hm y (by simp) c hcm)
  · rcases List.mem_cons.1 hm with rfl | hm
    · rw [← List.cons_append] at hcm
      rcases List.mem_append.1 hcm with h' | h'
      · exact o3 k hk (y :: b) (by simp) a hak c h'
      · simp at h'
        subst h'
        exact lt_alk ho (o3 k hk (y :: b) (by simp) a hak y (by simp)) ha
    · exact o3 k hk m (List.mem_cons_of_mem _ hm) a hak c hcm
/-- The greatest number put between lists. -/
theorem Grp.among (ho : LtO lt) {n : Nat} {A B : List (List Nat)} (h : Grp lt n (A ++ B)) (hA : ∀ g ∈ A, ∀ y b, g = y :: b → lt y n = true) (hB : ∀ g ∈ B, ∀ y b, g = y :: b → lt n y = true) : Grp lt (n + 1) (A ++ [n] :: B) := by
  obtain ⟨hp, hr⟩ := h
  have heads : ∀ g ∈ A ++ B, ∃ y b, g = y :: b := fun g hg => by
    cases g with
    | nil => exact absurd rfl (hr.ne [] hg)
    | cons y b => exact ⟨y, b, rfl⟩
  have hA2 : ∀ g ∈ A, ∀ x ∈ g, lt x n = true := fun g hg x hx => by
    obtain ⟨y, b, rfl⟩ := heads g (List.mem_append_left _ hg)
    have := hA _ hg y b rfl
    rcases List.mem_cons.1 hx with rfl | hx
    · exact this
    · exact alk_lt ho ((List.pairwise_cons.1 (hr.inn _ (List.mem_append_left _ hg))).1 x hx).2.symm this
  have hB2 : ∀ g ∈ B, ∀ x ∈ g, lt n x = true := fun g hg x hx => by
    obtain ⟨y, b, rfl⟩ := heads g (List.mem_append_right _ hg)
    have := hB _ hg y b rfl
    rcases List.mem_cons.1 hx with rfl | hx
    · exact this
    · exact lt_alk ho this ((List.pairwise_cons.1 (hr.inn _ (List.mem_append_right _ hg))).1 x hx).2
  obtain ⟨o1, o2, o3⟩ := List.pairwise_append.1 hr.out
  refine ⟨?_, fun k hk => ?_, fun k hk => ?_, List.pairwise_append.2 ⟨o1, List.pairwise_cons.2 ⟨fun m hm a hak c hcm => ?_, o2⟩, fun k hk m hm a hak c hcm => ?_⟩⟩
  · rw [List.range_succ]
    have e1 : (A ++ [n] :: B).flatten = A.flatten ++ ([n] ++ B.flatten) := by simp
    rw [List.flatten_append] at hp
    rw [e1]
    refine List.Perm.trans ?_ (hp.append_right [n])
    rw [List.append_assoc]
    exact List.perm_append_comm.append_left _
  · rcases List.mem_append.1 hk with h' | h'
    · exact hr.ne k (List.mem_append_left _ h')
    · rcases List.mem_cons.1 h' with rfl | h'
      · simp
      · exact hr.ne k (List.mem_append_right _ h')
  · rcases List.mem_append.1 hk with h' | h'
    · exact hr.inn k (List.mem_append_left _ h')
    · rcases List.mem_cons.1 h' with rfl | h'
      · simp
      · exact hr.inn k (List.mem_append_right _ h')
  · simp at hak
    subst hak
    exact hB2 m hm c hcm
  · rcases List.mem_cons.1 hm with rfl | hm
    · simp at hcm
      subst hcm
      exact hA2 k hk a hak
    · exact o3 k hk m hm a hak c hcm
/-- Whatever is behind is behind: the first list that is not ahead tells of all. -/
theorem Grp.rest (ho : LtO lt) {n x : Nat} {A B : List (List Nat)} {b : List Nat} {y : Nat} (h : Grp lt n (A ++ (y :: b) :: B)) (hx : lt x y = true) : ∀ g ∈ (y :: b) :: B, ∀ z c, g = z :: c → lt x z = true := fun g hg z c e => by
  obtain ⟨_, o2, _⟩ := List.pairwise_append.1 h.2.out
  rcases List.mem_cons.1 hg with rfl | hg
  · cases e; exact hx
  · subst e
    exact lt_lt ho hx ((List.pairwise_cons.1 o2).1 _ hg y (by simp) z (by simp))
theorem fun_lto (f : Nat → List V3) : LtO (ltF fun x y => cmpRows (f x) (f y)) where
  asym x y h := by
    have := cmpRows_neg (f x) (f y)
    simp only [decide_eq_true_eq, decide_eq_false_iff_not] at h ⊢
    omega
  trans x y z h1 h2 := by
    simp only [decide_eq_false_iff_not] at h1 h2 ⊢
    have a1 := cmpRows_neg (f x) (f y)
    have a2 := cmpRows_neg (f y) (f z)
    have a3 := cmpRows_neg (f x) (f z)
    have := cmpRows_trans (f x) (f y) (f z) (by omega) (by omega)
    omega
/-- The values that are grouped by. -/
def pickR (cs : List Int) (vs : List V3) : List V3 := cs.map fun c => nthV vs c.toNat
abbrev cfG (cs : List Int) (rs : Rs) (x y : Nat) : Int := cmpRows (pickR cs (nthR rs x)) (pickR cs (nthR rs y))
abbrev ltG (cs : List Int) (rs : Rs) : Nat → Nat → Bool := ltF (cfG cs rs)
theorem ltG_o (cs : List Int) (rs : Rs) : LtO (ltG cs rs) := fun_lto fun x => pickR cs (nthR rs x)
theorem cfG_neg (cs : List Int) (rs : Rs) (x y : Nat) : cfG cs rs x y = -cfG cs rs y x := cmpRows_neg _ _
theorem alk_of {cs : List Int} {rs : Rs} {x y : Nat} (h : cfG cs rs x y = 0) : Alk (ltG cs rs) x y := by
  have := cfG_neg cs rs x y
  constructor
  · exact decide_eq_false (by omega)
  · exact decide_eq_false (by omega)
theorem exists_grp {lt : Nat → Nat → Bool} (ho : LtO lt) : ∀ n, ∃ G, Grp lt n G
  | 0 => ⟨[], by simp, Runs.nil⟩
  | n + 1 => by
    obtain ⟨G, hG⟩ := exists_grp ho n
    have key : ∀ (B A : List (List Nat)), A ++ B = G → (∀ g ∈ A, ∀ y b, g = y :: b → lt y n = true) → ∃ G, Grp lt (n + 1) G := by
      intro B
      induction B with
      | nil => intro A e hA; exact ⟨A ++ [[n]], Grp.among ho (B := []) (by rw [e]; exact hG) hA (fun g hg => by simp at hg)⟩
      | cons g B ih =>
        intro A e hA
        obtain ⟨y, b, rfl⟩ : ∃ y b, g = y :: b := by
          cases g with
          | nil => exact absurd rfl (hG.2.ne [] (by rw [← e]; simp))
          | cons y b => exact ⟨y, b, rfl⟩
        cases h1 : lt y n with
        | true => exact ih (A ++ [y :: b]) (by simpa using e) (fun g hg z c ez => by
            rcases List.mem_append.1 hg with h | h
            · exact hA g h z c ez
            · simp at h; rw [h] at ez; cases ez; exact h1)
        | false =>
          cases h2 : lt n y with
          | true => exact ⟨_, Grp.among ho (by rw [e]; exact hG) hA (Grp.rest ho (by rw [e]; exact hG) h2)⟩
          | false => exact ⟨_, Grp.into ho (by rw [e]; exact hG) ⟨h1, h2⟩⟩
    exact key G [] rfl (fun g hg => by simp at hg)
/-- The groups of the rows, by their places. -/
noncomputable def grpN (cs : List Int) (rs : Rs) : List (List Nat) := Classical.choose (exists_grp (ltG_o cs rs) rs.length)
theorem grpN_spec (cs : List Int) (rs : Rs) : Grp (ltG cs rs) rs.length (grpN cs rs) := Classical.choose_spec (exists_grp (ltG_o cs rs) rs.length)
theorem grpN_eq {cs : List Int} {rs : Rs} {G : List (List Nat)} (h : Grp (ltG cs rs) rs.length G) : G = grpN cs rs := grp_uniq (ltG_o cs rs) h (grpN_spec cs rs)
end Go.Proofs.Ytmcjgncpblbhpaa
