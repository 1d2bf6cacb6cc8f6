/- What an act makes of a space; each act of impl's (stage 4). -/
import Derived.Test.YtaklphoplfofbaaStJ
namespace Go.Proofs.Ytaklphoplfofbaa
open Go.RowKit Go.Maps Go.WideShapes Go.ChangeMaps Go.MapKept

/-- What an act leaves and tells. -/
structure SR where
  e : Int
  ss : List Int
  ps : List P2
  qs : List Int
  c : Int
  pg : List Int
/-- An act of kind k with the number n. -/
def stp (t : Nat) (e : Int) (ss : List Int) (ps : List P2) (qs : List Int) (k n : Int) : SR :=
  if k = 1 then
    if 0 ≤ n ∧ n ≤ 64 then
      if (freeK (usedB ss ps) t).length < n.toNat ∨ e = 1000000 then ⟨e, ss, ps, qs, 7, []⟩
      else ⟨e + 1, (freeK (usedB ss ps) t).take n.toNat, relP (e + 1) qs (mer e ss ps), qs, 0, (freeK (usedB ss ps) t).take n.toNat⟩
    else ⟨e, ss, ps, qs, 4, []⟩
  else if k = 2 then
    if 4 ≤ qs.length then ⟨e, ss, ps, qs, 7, []⟩ else ⟨e, ss, ps, qs ++ [e], 0, ss⟩
  else if k = 3 then
    if 0 ≤ n ∧ n < qs.length then ⟨e, ss, relP e (qs.eraseIdx n.toNat) ps, qs.eraseIdx n.toNat, 0, []⟩ else ⟨e, ss, ps, qs, 5, []⟩
  else ⟨e, ss, ps, qs, 3, []⟩
abbrev SQR (w : World) (v1 v2 v3 : Value) (ss : List Int) (ps : List P2) (qs : List Int) (t : Int) (R : SR) (r : Ending) (w' : World) : Prop := SQ w v1 v2 v3 ss ps qs t R.e R.ss R.ps R.qs R.c R.pg r w'

theorem commit_any (t : Nat) (e n : Int) (m c : Nat) (v1 v2 v3 : Value) (ss : List Int) (ps : List P2) (qs : List Int) (w : World) (ok : OkSp t e ss ps qs) (h1 : ReadI w v1 ss) (h2 : ReadP w v2 ps) (h3 : ReadI w v3 qs) (hm : MapOf w m c (dOf (kvOf e ss ps))) :
    Calls Try.prog 64 #[SV t e v1 v2 v3, .int .i64 n, .map (some m)] w fun r w' => SQR w v1 v2 v3 ss ps qs t (stp t e ss ps qs 1 n) r w' ∧ Below w.heap.size w w' := by
  have t0 := ok.1
  have e0 := ok.2.1
  have q0 := ok.2.2.2.2.2.1
  by_cases hn : 0 ≤ n ∧ n ≤ 64
  · obtain ⟨k, rfl⟩ := Int.eq_ofNat_of_zero_le hn.1
    by_cases hf : (freeK (usedB ss ps) t).length < k ∨ e = 1000000
    · have E : stp t e ss ps qs 1 (k : Int) = ⟨e, ss, ps, qs, 7, []⟩ := by unfold stp; rw [if_pos rfl, if_pos hn, if_pos (by simpa using hf)]
      rw [E]
      exact commit_full t e k m c v1 v2 v3 ss ps qs w h1 h2 h3 (by omega) hm (by omega) hf
    · have E : stp t e ss ps qs 1 (k : Int) = ⟨e + 1, (freeK (usedB ss ps) t).take k, relP (e + 1) qs (mer e ss ps), qs, 0, (freeK (usedB ss ps) t).take k⟩ := by
        unfold stp
        rw [if_pos rfl, if_pos hn, if_neg (by simpa using hf)]
        simp
      rw [E, ← commit_held ok]
      exact commit_ok t e k m c v1 v2 v3 ss ps qs w h1 h2 h3 (by omega) (by omega) hm (by omega) (by omega) (by omega) (by omega)
  · have E : stp t e ss ps qs 1 n = ⟨e, ss, ps, qs, 4, []⟩ := by unfold stp; rw [if_pos rfl, if_neg hn]
    rw [E]
    exact commit_range t e n _ v1 v2 v3 ss ps qs w h1 h2 h3 hn
theorem pin_any (t : Nat) (e n : Int) (v1 v2 v3 : Value) (ss : List Int) (ps : List P2) (qs : List Int) (w : World) (l1 : ss.length ≤ 1048576) (h1 : ReadI w v1 ss) (h2 : ReadP w v2 ps) (h3 : ReadI w v3 qs) :
    Calls Try.prog 65 #[SV t e v1 v2 v3] w fun r w' => SQR w v1 v2 v3 ss ps qs t (stp t e ss ps qs 2 n) r w' ∧ Below w.heap.size w w' := by
  by_cases hq : 4 ≤ qs.length
  · have E : stp t e ss ps qs 2 n = ⟨e, ss, ps, qs, 7, []⟩ := by unfold stp; rw [if_neg (by omega), if_pos rfl, if_pos hq]
    rw [E]
    exact pin_full t e v1 v2 v3 ss ps qs w h1 h2 h3 hq
  · have E : stp t e ss ps qs 2 n = ⟨e, ss, ps, qs ++ [e], 0, ss⟩ := by unfold stp; rw [if_neg (by omega), if_pos rfl, if_neg hq]
    rw [E]
    exact pin_room t e v1 v2 v3 ss ps qs w h1 h2 h3 l1 (by omega)
theorem unpin_any (t : Nat) (e n : Int) (m c : Nat) (v1 v2 v3 : Value) (ss : List Int) (ps : List P2) (qs : List Int) (w : World) (ok : OkSp t e ss ps qs) (h1 : ReadI w v1 ss) (h2 : ReadP w v2 ps) (h3 : ReadI w v3 qs) (hm : MapOf w m c (dOf (kvOf e ss ps))) :
    Calls Try.prog 66 #[SV t e v1 v2 v3, .int .i64 n, .map (some m)] w fun r w' => SQR w v1 v2 v3 ss ps qs t (stp t e ss ps qs 3 n) r w' ∧ Below w.heap.size w w' := by
  have t0 := ok.1
  have e0 := ok.2.1
  have q0 := ok.2.2.2.2.2.1
  by_cases hn : 0 ≤ n ∧ n < qs.length
  · obtain ⟨k, rfl⟩ := Int.eq_ofNat_of_zero_le hn.1
    have E : stp t e ss ps qs 3 (k : Int) = ⟨e, ss, relP e (qs.eraseIdx k) ps, qs.eraseIdx k, 0, []⟩ := by
      unfold stp
      rw [if_neg (by omega), if_neg (by omega), if_pos rfl, if_pos hn]
      simp
    rw [E, ← unpin_held ok]
    exact unpin_ok t e k m c _ v1 v2 v3 ss ps qs w h1 h2 h3 (by omega) (by omega) hm (by omega) (by omega) (by omega)
  · have E : stp t e ss ps qs 3 n = ⟨e, ss, ps, qs, 5, []⟩ := by unfold stp; rw [if_neg (by omega), if_neg (by omega), if_pos rfl, if_neg hn]
    rw [E]
    exact unpin_none t e n _ v1 v2 v3 ss ps qs w h1 h2 h3 hn

/-- Lists are read behind a change of a set. -/
theorem ReadI.grown {w w' : World} {v : Value} {l : List Int} {m n : Nat} {D : DU} (h : ReadI w v l) (hm : MapOf w m n D) (g : w.grownBy w' (some m)) : ReadI w' v l := h.imp id fun ⟨p, c, e, hc, r⟩ => ⟨p, c, e, hc, r.grown hm g⟩
theorem ReadP.grown {w w' : World} {v : Value} {l : List P2} {m n : Nat} {D : DU} (h : ReadP w v l) (hm : MapOf w m n D) (g : w.grownBy w' (some m)) : ReadP w' v l := h.imp id fun ⟨p, c, e, hc, r⟩ => ⟨p, c, e, hc, r.grown hm g⟩
/-- What an act answers, its values laid open. -/
abbrev SV4 (n : Nat) (v1 v2 v3 : Value) (ss : List Int) (ps : List P2) (qs : List Int) (ss' : List Int) (ps' : List P2) (qs' : List Int) (pg : List Int) (u1 u2 u3 u4 : Value) (w' : World) : Prop :=
  (u1 = v1 ∧ ss' = ss ∨ OwnI w' n u1 ss') ∧ (u2 = v2 ∧ ps' = ps ∨ OwnP w' n u2 ps') ∧ (u3 = v3 ∧ qs' = qs ∨ OwnI w' n u3 qs') ∧ OwnI w' n u4 pg ∧ (u1 = v1 ∨ SepN n u1 u4) ∧ (u3 = v3 ∨ SepN n u3 u4) ∧ (u1 = v1 ∨ u3 = v3 ∨ SepN n u1 u3)
theorem SV4.up {n n' : Nat} {v1 v2 v3 : Value} {ss : List Int} {ps : List P2} {qs ss' : List Int} {ps' : List P2} {qs' pg : List Int} {u1 u2 u3 u4 : Value} {w w' : World} (h : SV4 n v1 v2 v3 ss ps qs ss' ps' qs' pg u1 u2 u3 u4 w) (hn : n' ≤ n) (hk : ∀ g, n ≤ g → g < w.heap.size → w'.heap[g]? = w.heap[g]?) : SV4 n' v1 v2 v3 ss ps qs ss' ps' qs' pg u1 u2 u3 u4 w' := by
  obtain ⟨a1, a2, a3, a4, s1, s2, s3⟩ := h
  have up : ∀ {e m k : Nat} {v : Value} {xs : List Value}, w.ownsRow n e m v k xs → w'.ownsRow n' e m v k xs := fun o => own_mono (own_keep o hk) hn
  refine ⟨a1.imp id up, a2.imp id up, a3.imp id up, up a4, s1.imp id fun s j _ x y => s j (own_lt a4 y).1 x y, s2.imp id fun s j _ x y => s j (own_lt a4 y).1 x y, ?_⟩
  rcases s3 with s | s | s
  · exact .inl s
  · exact .inr (.inl s)
  · rcases a3 with ⟨e, _⟩ | o
    · exact .inr (.inl e)
    · exact .inr (.inr fun j _ x y => s j (own_lt o y).1 x y)
theorem SV4.shp {n : Nat} {v1 v2 v3 : Value} {ss : List Int} {ps : List P2} {qs ss' : List Int} {ps' : List P2} {qs' pg : List Int} {u1 u2 u3 u4 : Value} {w w0 : World} (h : SV4 n v1 v2 v3 ss ps qs ss' ps' qs' pg u1 u2 u3 u4 w) (h1 : ReadI w0 v1 ss) (h2 : ReadP w0 v2 ps) (h3 : ReadI w0 v3 qs) :
    (∃ a k c, u1 = .slice a k c) ∧ (∃ a k c, u2 = .slice a k c) ∧ (∃ a k c, u3 = .slice a k c) ∧ (∃ a k c, u4 = .slice a k c) := by
  obtain ⟨a1, a2, a3, a4, _⟩ := h
  refine ⟨?_, ?_, ?_, own_shq a4⟩
  · rcases a1 with ⟨rfl, _⟩ | o
    · obtain ⟨a, c, e, _⟩ := h1.row
      exact ⟨a, _, c, e⟩
    · exact own_shq o
  · rcases a2 with ⟨rfl, _⟩ | o
    · obtain ⟨a, c, e, _⟩ := h2.row
      exact ⟨a, _, c, e⟩
    · exact own_shq o
  · rcases a3 with ⟨rfl, _⟩ | o
    · obtain ⟨a, c, e, _⟩ := h3.row
      exact ⟨a, _, c, e⟩
    · exact own_shq o
end Go.Proofs.Ytaklphoplfofbaa
