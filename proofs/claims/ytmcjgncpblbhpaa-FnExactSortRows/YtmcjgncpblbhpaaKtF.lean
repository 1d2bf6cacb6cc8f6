/- Two lists of rows with their keys merged, whatever their lengths (stage 13). -/
import Derived.Test.YtmcjgncpblbhpaaKtE
import Derived.Test.YtmcjgncpblbhpaaSoF
namespace Go.Proofs.Ytmcjgncpblbhpaa
open Go.RowKit

theorem mrg_all2 (g N cap n nn : Nat) (k : Ce2) (cf : Nat → Nat → Int) (ho : LtO (ltF cf)) (fg : Nat) (cp : Array Value) (hN : n ≤ 4096) : ∀ L, Mr2 g N cap n nn k cf fg cp L
  | 0 => fun P s1 s2 S w hL h1 h2 => by omega
  | L + 1 => fun P s1 s2 S w hL h1 h2 hD hn hs p1 p2 hi hF => by
    by_cases e1 : s1.length = 1
    · obtain ⟨x, rfl⟩ : ∃ x, s1 = [x] := List.length_eq_one_iff.1 e1
      refine (sym_one2 g N cap n nn k cf ho P s2 S x fg cp w hD hn hN hs p2 (fun y hy => hi x (by simp) y hy) hF).mono ?_
      rintro e w' ⟨rfl, hK, s', h3, h4, h5⟩
      exact ⟨rfl, hK, s', h3, h4, h5⟩
    · by_cases e2 : s2.length = 1
      · obtain ⟨y, rfl⟩ : ∃ y, s2 = [y] := List.length_eq_one_iff.1 e2
        refine (sym_last2 g N cap n nn k cf ho P s1 S y fg cp w hD hn hN (by omega) (fun x hx => hs x (by rcases List.mem_cons.1 hx with rfl | h; exact List.mem_append_right _ (by simp); exact List.mem_append_left _ h)) p1 (fun x hx => hi x hx y (by simp)) hF).mono ?_
        rintro e w' ⟨rfl, hK, s', h3, h4, h5⟩
        exact ⟨rfl, hK, s', h3, h4, h5⟩
      · exact sym_two2 g N cap n nn k cf ho fg cp hN L (mrg_all2 g N cap n nn k cf ho fg cp hN L) P s1 s2 S w hL (by omega) (by omega) hD hn hs p1 p2 hi hF
end Go.Proofs.Ytmcjgncpblbhpaa
