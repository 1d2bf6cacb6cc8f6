/- The cells of a row on impl's side. -/
import Derived.Test.YtfkenogbfbbbjaaRowsB
namespace Go.Proofs.Ytfkenogbfbbbjaa
open Go.RowKit

def cellW (v : V3) : Value := cellV v.1 v.2.1 v.2.2
theorem cell_held {k n : Int} {t : ByteArray} (h : okV k n t = true) : ∃ u x, cellV k n t = .iface u x := by
  unfold cellV
  rw [if_pos h]
  split; · exact ⟨_, _, rfl⟩
  split; · exact ⟨_, _, rfl⟩
  split; · exact ⟨_, _, rfl⟩
  split; · exact ⟨_, _, rfl⟩
  exact ⟨_, _, rfl⟩
theorem own_below {w w' : World} {B e n : Nat} {v : Value} {xs : List Value} (h : w.ownsRow B e 1 v n xs) (hb : Below w.heap.size w w') : w'.ownsRow B e 1 v n xs := by
  refine ⟨h.1, ?_⟩
  rcases h.2 with h | ⟨g, cap, cur, e1, e2, hh, r⟩
  · exact .inl h
  · refine .inr ⟨g, cap, cur, e1, e2, ?_, r⟩
    rw [hb.block g ?_]
    · exact hh
    · rcases Nat.lt_or_ge g w.heap.size with h | h
      · exact h
      · rw [Array.getElem?_eq_none h] at hh; cases hh
theorem info69 : (Try.prog.info? 69).map (fun i => (i.zero, i.size, i.bytes)) = some (some .nilIface, 1, 16) := by kernel_rfl

/-- The code of a row: long, bad or right. -/
def rowCode (vs : List V3) : Int := if 4096 < vs.length then 2 else if okRow vs then 0 else 1

theorem take_snoc {vs : List V3} {k : Nat} (h : k < vs.length) : (vs.take (k + 1)).map cellW = (vs.take k).map cellW ++ [cellW (nthV vs k)] := by
  rw [List.take_succ_eq_append_getElem h, List.map_append]
  unfold nthV
  rw [List.getD_eq_getElem?_getD, List.getElem?_eq_getElem h]
  rfl
theorem grown_below {B e n : Nat} {w u u' : World} {v : Value} {xs : List Value} (h : Below B w u) (hB : B ≤ u.heap.size) (ho : u.ownsRow B e 1 v n xs) (hg : u.grownBy u' v.ownBlock) : Below B w u' :=
  h.grown hg hB (fun k hk => by
    rcases ho.2 with ⟨rfl, _⟩ | ⟨g, cap, cur, rfl, hb, _⟩
    · cases hk
    · cases hk; exact hb)

set_option maxRecDepth 100000 in
set_option maxHeartbeats 2000000 in
theorem rowCells_any (a : Option Addr) (cap : Nat) (vs : List V3) (w : World) (hrow : RowV w a vs) (hlen : vs.length ≤ 1048576) :
    Calls Try.prog 53 #[.slice a vs.length cap] w fun e w' => ∃ v, e = .returned (.tuple #[v, .int .i64 (rowCode vs)]) ∧ (rowCode vs = 0 → w'.ownsRow w.heap.size 69 1 v vs.length (vs.map cellW)) ∧ Below w.heap.size w w' := by
  have H1 : Hid (RowV w a vs) := hrow
  clear hrow
  obtain ⟨i0, hi, hz0, hz1, hz2⟩ := info_parts info69
  generalize hL : vs.length = len at *
  have HL : Hid (vs.length = len) := hL
  clear hL
  by_cases h40 : 4096 < len
  · have HR : Hid (rowCode vs = 2) := by show _ = _; unfold rowCode; rw [HL.out, if_pos h40]
    go_enter Try.func53, Try.ntmps53
    go_wp2
    go_ret2
    exact ⟨.slice none 0 0, by rw [HR.out]; rfl, fun h => by rw [HR.out] at h; omega, Below.refl _ _⟩
  by_cases h8 : 8 < len
  · have HR : Hid (rowCode vs = 1) := by show _ = _; unfold rowCode; rw [HL.out, if_neg h40, okRow_long (by rw [HL.out]; exact h8)]; rfl
    go_enter Try.func53, Try.ntmps53
    go_wp2
    go_ret2
    exact ⟨.slice none 0 0, by rw [HR.out]; rfl, fun h => by rw [HR.out] at h; omega, Below.refl _ _⟩
  go_enter Try.func53, Try.ntmps53
  go_wp2
  go_loopw [4, 16] (fun v i wr => ∃ k : Nat, k ≤ len ∧ i = .int .i64 k ∧ Hid (∀ j, j < k → okV3 (nthV vs j) = true) ∧ wr.ownsRow w.heap.size 69 1 v k ((vs.take k).map cellW) ∧ Below w.heap.size w wr) (fun _ i _ => len - (intOf i).toNat)
  case atStart => exact ⟨0, by omega, rfl, fun j hj => by omega, World.ownsRow_nil _ _ _ _, Below.refl _ _⟩
  case round =>
    obtain ⟨k, hk, rfl, HA, hown, hbl⟩ := hrel
    by_cases hlt : k < len
    · obtain ⟨b, off, rfl, hlb, ⟨hc0, hc1, hc2⟩, hsz⟩ := (H1.out.below hbl) k (by rw [HL.out]; exact hlt)
      have hltI : (k : Int) < (len : Int) := by omega
      have HT : Hid ((vs.take (k + 1)).map cellW = (vs.take k).map cellW ++ [cellV (nthV vs k).1 (nthV vs k).2.1 (nthV vs k).2.2]) := take_snoc (by rw [HL.out]; exact hlt)
      by_cases hok : okV (nthV vs k).1 (nthV vs k).2.1 (nthV vs k).2.2 = true
      · have HK : Hid (okV3 (nthV vs k) = true) := hok
        obtain ⟨u, x, hux⟩ := cell_held hok
        rw [hux] at HT
        generalize (vs.take k).map cellW = cs at *
        clear hok
        go_wp2_with fail
        refine (cellOf_any _ _ _ _).mono ?_
        rintro e w1 ⟨rfl, hb1⟩
        have hB0 : Below w.heap.size w (wr.alloc (.cells #[.int .i64 (nthV vs k).1, .int .i64 (nthV vs k).2.1, .string (nthV vs k).2.2] 24)) := hbl.alloc hbl.size _
        have hB1 := below_step hB0 (by have := hB0.size; omega) (hb1.mono (Nat.le_refl _))
        have hown1 : (w1.alloc (.cells #[.iface u x] 69)).ownsRow w.heap.size 69 1 _ k cs := own_below (own_below (own_below hown ((Below.refl _ _).alloc (Nat.le_refl _) (.cells #[.int .i64 (nthV vs k).1, .int .i64 (nthV vs k).2.1, .string (nthV vs k).2.2] 24))) hb1) ((Below.refl _ _).alloc (Nat.le_refl _) _)
        have hB2 : Below w.heap.size w (w1.alloc (.cells #[.iface u x] 69)) := hB1.alloc hB1.size _
        clear hc0 hc1 hc2 hlb hown hbl hb1 hB0 hB1
        go_wp2_with (at_builtin; refine wpList_append_own _ rfl (.tmp 24) (.tmp 26) 62 rfl w.heap.size 69 i0 .nilIface 1 16 Try.underlying62 hi hz0 hz1 hz2 rfl (by decide) _ k cs rfl hown1 ⟨w1.heap.size, 0, none⟩ 1 1 [.iface u x] rfl rfl ?c1 ?c2 ?c3 ?c4 ?c5 ?_)
        case c1 => exact cell_one_new _ _ _
        case c2 => intro u' hu'; simp at hu'; subst hu'; rfl
        case c3 => unfold maxLen; omega
        case c4 => omega
        case c5 => exact hB2.size
        intro v' w3 hown3 hgr _
        have hB3 := grown_below hB2 hB2.size hown1 hgr
        have hown4 : w3.ownsRow w.heap.size 69 1 v' (k + 1) ((vs.take (k + 1)).map cellW) := by rw [HT.out]; exact hown3
        have HO : Hid (w3.ownsRow w.heap.size 69 1 v' (k + 1) ((vs.take (k + 1)).map cellW)) := hown4
        clear hown3 hgr hown1 hB2 hown4
        go_wp2
        go_roundw
        case rel => exact ⟨k + 1, by omega, by go_num, all_step' HA.out HK.out, HO.out, hB3⟩
        case measure => simp [intOf]; omega
      · have hok' : okV (nthV vs k).1 (nthV vs k).2.1 (nthV vs k).2.2 = false := by simpa using hok
        have HR : Hid (rowCode vs = 1) := by show _ = _; unfold rowCode; rw [HL.out, if_neg h40, okRow_bad (by rw [HL.out]; exact hlt) hok']; rfl
        have hux : cellV (nthV vs k).1 (nthV vs k).2.1 (nthV vs k).2.2 = .nilIface := by unfold cellV; rw [hok']; rfl
        clear hok
        go_wp2_with fail
        refine (cellOf_any _ _ _ _).mono ?_
        rintro e w1 ⟨rfl, hb1⟩
        have hB0 : Below w.heap.size w (wr.alloc (.cells #[.int .i64 (nthV vs k).1, .int .i64 (nthV vs k).2.1, .string (nthV vs k).2.2] 24)) := hbl.alloc hbl.size _
        have hB1 := below_step hB0 (by have := hB0.size; omega) (hb1.mono (Nat.le_refl _))
        clear hc0 hc1 hc2 hlb hown hbl hb1 hB0
        go_wp2
        go_ret2
        exact ⟨.slice none 0 0, by rw [HR.out]; rfl, fun h => by rw [HR.out] at h; omega, hB1⟩
    · have e : k = len := by omega
      subst e
      have hok : okRow vs = true := okRow_good (by rw [HL.out]; omega) (fun j hj => HA.out j (by have := HL.out; omega))
      have HR : Hid (rowCode vs = 0) := by show _ = _; unfold rowCode; rw [HL.out, if_neg h40, hok]; rfl
      have HO : Hid (wr.ownsRow w.heap.size 69 1 u4 k (vs.map cellW)) := by rw [List.take_of_length_le (by rw [HL.out]; exact Nat.le_refl _)] at hown; exact hown
      clear hown hok
      go_wp2
      go_ret2
      exact ⟨u4, by rw [HR.out]; rfl, fun _ => HO.out, hbl⟩
end Go.Proofs.Ytfkenogbfbbbjaa
