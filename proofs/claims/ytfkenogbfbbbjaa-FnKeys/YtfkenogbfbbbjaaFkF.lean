/- Key bytes with their room; rows put together. -/
import Derived.Test.YtfkenogbfbbbjaaFkE
import Derived.Test.YtfkenogbfbbbjaaKeyE
namespace Go.Proofs.Ytfkenogbfbbbjaa
open Go.RowKit

set_option maxRecDepth 100000 in
set_option maxHeartbeats 4000000 in
theorem implKeyBytes_cap (a : Option Addr) (cap : Nat) (vs : List V3) (w : World) (hrow : RowV w a vs) (hok : okRow vs = true) :
    Calls Try.prog 19 #[.slice a vs.length cap] w fun e w' => ∃ g c, e = .returned (.tuple #[.slice (some ⟨g, 0, none⟩) (encKey vs).length c, .int .i64 0]) ∧ (encKey vs).length ≤ c ∧ w.heap.size ≤ g ∧ OwnB w' (some ⟨g, 0, none⟩) (encKey vs).length (byteVal (encKey vs)) ∧ Below w.heap.size w w' := by
  obtain ⟨h8, hall⟩ := okRow_all hok
  have H1 : Hid (RowV w a vs) := hrow
  have HA : Hid (∀ v ∈ vs, okV3 v = true) := hall
  have hcode : rowCode vs = 0 := by unfold rowCode; rw [if_neg (by omega), hok]; rfl
  have HB : Hid (∀ x ∈ encKey vs, ∃ c : Int, x = .int .u8 c ∧ 0 ≤ c ∧ c ≤ 255) := encKey_bytes hok
  clear hrow hall hok
  go_enter Try.func19, Try.ntmps19
  go_wp2_with fail
  refine (rowCells_any a cap vs w H1.out (by omega)).mono ?_
  rintro e w1 ⟨v, rfl, hown, hb1⟩
  obtain ⟨av, cv, hv, hRI⟩ := own_row (hown hcode)
  subst hv
  have HR : Hid (RowI w1 av vs) := hRI
  clear hown hRI
  have hF : Hid (Bld w1.heap.size w1.heap.size [] (w1.alloc (.cells #[.pointer none, .slice none 0 0] 67))) := Lib.fresh_isBuilder 67 5 w1
  have hB0 : Below w1.heap.size w1 (w1.alloc (.cells #[.pointer none, .slice none 0 0] 67)) := (Below.refl _ _).alloc (Nat.le_refl _) _
  generalize hN : vs.length = n at *
  have HN : Hid (vs.length = n) := hN
  clear hN
  go_wp2
  go_loopw [19] (fun i wr => ∃ k : Nat, k ≤ n ∧ i = .int .i64 k ∧ Hid (Bld w1.heap.size w1.heap.size ((vs.take k).flatMap encK) wr) ∧ Below w1.heap.size w1 wr) (fun i _ => n - (intOf i).toNat)
  case atStart => exact ⟨0, by omega, rfl, hF.out, hB0⟩
  case round =>
    clear hcode
    obtain ⟨k, hk, rfl, HK, hbl⟩ := hrel
    by_cases hlt : k < n
    · have hlt' : k < vs.length := by rw [HN.out]; exact hlt
      obtain ⟨b, rfl, hlb, hc⟩ := (HR.out.below hbl) k hlt'
      have hltI : (k : Int) < (n : Int) := by omega
      have HV : Hid (okV3 (nthV vs k) = true) := HA.out _ (nth_mem hlt')
      have HT : Hid ((vs.take (k + 1)).flatMap encK = (vs.take k).flatMap encK ++ encK (nthV vs k)) := takeK_flat hlt'
      have HL : Hid (((vs.take k).flatMap encK).length ≤ 40000) := by
        have := keyFlat_len (vs.take k) (fun u hu => HA.out u (List.mem_of_mem_take hu))
        have h2 : (vs.take k).length ≤ 8 := by rw [List.length_take]; omega
        show _ ≤ _
        omega
      have hsz : w1.heap.size ≤ wr.heap.size := hbl.size
      go_wp2_with fail
      refine (writeKeyCell_any w1.heap.size w1.heap.size _ (nthV vs k) wr HV.out HK.out HL.out hsz).mono ?_
      rintro e w3 ⟨rfl, g3, d3⟩
      have H3 : Hid (Bld w1.heap.size w1.heap.size ((vs.take (k + 1)).flatMap encK) w3) := by rw [HT.out]; exact g3
      have hB3 := hbl.trans d3
      clear g3 d3 hc hlb hbl
      go_wp2
      go_roundw
      case rel => exact ⟨k + 1, by omega, by go_num, H3.out, hB3⟩
      case measure => simp [intOf]; omega
    · have e : k = n := by omega
      subst e
      obtain ⟨l, hl⟩ := bytes_list (encKey vs) HB.out
      have HLL : Hid (encKey vs = Lib.byteCells l) := hl
      have H4 : Hid (Bld w1.heap.size w1.heap.size (Lib.byteCells l) wr) := by
        have h := HK.out
        rw [List.take_of_length_le (by rw [HN.out]; exact Nat.le_refl _)] at h
        rw [← hl, encKey]
        exact h
      have hcv := fun wx => run_bytes_of_string (P := Try.prog) wx 9 22 5 ⟨l.toArray⟩ Try.underlying9 Try.underlying22 Try.underlying5
      clear hl HK
      go_wp2_with fail
      refine (Try.Builder_String_any w1.heap.size w1.heap.size l wr H4.out hbl.size).mono ?_
      rintro e w4 ⟨rfl, d4⟩
      have hB4 := hbl.trans d4
      clear d4 H4
      go_wp2
      go_ret2
      have hlen : (encKey vs).length = l.length := by rw [HLL.out, Lib.byteCells_length]
      refine ⟨w4.heap.size, grownCap w4 l.length 0 5, ?_, ?_, Nat.le_trans hb1.size hB4.size, ?_, ?_⟩
      · rw [hlen]; rfl
      · rw [hlen]; exact grownCap_ge _ _ _ _
      · rw [hlen, HLL.out]
        exact own_bytes w4 l _
      · exact ((hb1.trans (hB4.mono hb1.size)).alloc (Nat.le_trans hb1.size hB4.size) _).drew

/-- 'append(own, xs...)' of values, xs nil or not. -/
theorem wpList_append_row3 {w : World} {ops : Array Oper} {rest : List Oper} {o : Oper} {a : Act} {Q : Exit → Act → World → Prop} (hgd : o.guard = none) (s x : Operand) (t : TypeId)
    (ho : o.op = .call { callee := .builtin .append, args := #[s, x], argTypes := #[t, t] })
    (base : Nat) (e : TypeId) (i : TypeInfo) (z : Value) (bytes : Nat) (ht : Try.prog.underlying t = some (.slice e)) (hi : Try.prog.info? e = some i) (hz : i.zero = some z)
    (hsize : i.size = 3) (hby : i.bytes = bytes) (hzs : z.cells.size = 3)
    (v : Value) (n : Nat) (xs : List Value) (hs : a.eval s = v) (hown : w.ownsRow base e 3 v n xs)
    (ad : Option Addr) (m c : Nat) (news : List Value) (hx : a.eval x = .slice ad m c) (hnil : ad = none → m = 0 ∧ c = 0 ∧ news = []) (hl : news.length = m * 3) (hnews : ∀ p, ad = some p → ∀ j u, news[j]? = some u → w.cell? (p.add j) = some u) (h1 : ∀ u ∈ news, u.oneCell' = true)
    (h63 : n + m ≤ maxLen) (hbytes : (n + m) * bytes ≤ 140737488355328) (hbase : base ≤ w.heap.size)
    (h : ∀ v' w', w'.ownsRow base e 3 v' (n + m) (xs ++ news) → w.grownBy w' v.ownBlock → wpList Try.prog ops Q rest (a.put o.dst v') w') : wpList Try.prog ops Q (o :: rest) a w := by
  cases ad with
  | none =>
    obtain ⟨rfl, rfl, rfl⟩ := hnil rfl
    exact wpList_append_own_none hgd s x t ho base e i 3 ht hi v n xs hs hown hx (h v w (by simpa using hown) ⟨rfl, rfl, rfl, Nat.le_refl _, fun _ _ _ => rfl⟩)
  | some p => exact wpList_append_own w hgd s x t ho base e i z 3 bytes ht hi hz hsize hby hzs (by omega) v n xs hs hown p m c news hx hl (hnews p rfl) h1 h63 hbytes hbase (fun v' w' h2 h3 _ => h v' w' h2 h3)
theorem cells3_len (vs : List V3) : (cells3 vs).length = vs.length * 3 := by
  induction vs with
  | nil => rfl
  | cons v vs ih =>
    have e : cells3 (v :: vs) = .int .i64 v.1 :: .int .i64 v.2.1 :: .string v.2.2 :: cells3 vs := by simp [cells3]
    rw [e]
    simp only [List.length_cons, ih]
    omega
theorem cells3_app (vs us : List V3) : cells3 (vs ++ us) = cells3 vs ++ cells3 us := by simp [cells3]
theorem cells3_one (vs : List V3) : ∀ u ∈ cells3 vs, u.oneCell' = true := by
  induction vs with
  | nil => intro u hu; cases hu
  | cons v vs ih =>
    have e : cells3 (v :: vs) = .int .i64 v.1 :: .int .i64 v.2.1 :: .string v.2.2 :: cells3 vs := by simp [cells3]
    rw [e]
    intro u hu
    simp only [List.mem_cons] at hu
    rcases hu with rfl | rfl | rfl | hu
    · rfl
    · rfl
    · rfl
    · exact ih u hu
theorem rowV_cells {w : World} {b off : Nat} {vs : List V3} (h : RowV w (some ⟨b, off, none⟩) vs) : ∀ j, j < vs.length * 3 → w.cell? ⟨b, off + j, none⟩ = (cells3 vs)[j]? := fun j hj => by
  obtain ⟨b', off', e, _, ⟨c0, c1, c2⟩, _⟩ := h (j / 3) (by omega)
  cases e
  obtain ⟨g0, g1, g2⟩ := cells3_get vs (j / 3) (by omega)
  rcases (show j = j / 3 * 3 ∨ j = j / 3 * 3 + 1 ∨ j = j / 3 * 3 + 2 by omega) with e | e | e
  · rw [e, g0]; exact c0
  · rw [e, g1]; exact c1
  · rw [e, g2]; exact c2
/-- The cells of the first m values, as an append reads them. -/
theorem rowV_news {w : World} {p : Addr} {vs : List V3} (h : RowV w (some p) vs) (m : Nat) (hm : m ≤ vs.length) : ∀ j u, (cells3 (vs.take m))[j]? = some u → w.cell? (p.add j) = some u := fun j u hu => by
  have hj : j < m * 3 := by
    have h' : j < (cells3 (vs.take m)).length := by
      rcases Nat.lt_or_ge j (cells3 (vs.take m)).length with h' | h'
      · exact h'
      · rw [List.getElem?_eq_none h'] at hu; cases hu
    rw [cells3_len, List.length_take] at h'
    omega
  have e1 : (cells3 vs)[j]? = some u := by
    have : cells3 vs = cells3 (vs.take m) ++ cells3 (vs.drop m) := by rw [← cells3_app, List.take_append_drop]
    rw [this, List.getElem?_append_left (by rw [cells3_len, List.length_take]; omega)]
    exact hu
  obtain ⟨b, off, e, _⟩ := h 0 (by omega)
  cases e
  have hp : (⟨b, off, none⟩ : Addr).add j = ⟨b, off + j, none⟩ := by unfold Addr.add; split <;> simp_all
  rw [hp, rowV_cells h j (by omega)]
  exact e1
end Go.Proofs.Ytfkenogbfbbbjaa
