/- A literal as impl reads it. -/
import Derived.Test.YtipddjgoohnalaaRvH
import Derived.Test.YtipddjgoohnalaaCells
namespace Go.Proofs.Ytipddjgoohnalaa
open Go.RowKit

theorem ext01 (s : ByteArray) (h : 0 < s.size) (c : UInt8) : ((s.extract 0 1).toList == (⟨#[c]⟩ : ByteArray).toList) = (byteAt s 0 == (c.toNat : Int)) := by
  have e1 : (s.extract 0 1).toList = [s.data.toList.getD 0 0] := by
    rw [ByteArray.toList_eq]
    rw [ByteArray.data_extract, Array.toList_extract, List.extract_eq_take_drop]
    have hl : s.size = s.data.toList.length := by simp
    cases hd : s.data.toList with
    | nil => rw [hd, List.length_nil] at hl; omega
    | cons x xs => simp
  have e2 : (⟨#[c]⟩ : ByteArray).toList = [c] := by rw [ByteArray.toList_eq]
  rw [e1, e2]
  unfold byteAt
  generalize s.data.toList.getD 0 0 = x
  by_cases hx : x = c
  · rw [hx]; simp
  · have h1 : ([x] == [c]) = false := by simp [hx]
    have h2 : ((x.toNat : Int) == (c.toNat : Int)) = false := beq_eq_false_iff_ne.2 (fun h => hx (UInt8.toNat_inj.1 (by omega)))
    rw [h1, h2]
/-- The text opens with the byte. -/
def pre (s : ByteArray) (c : UInt8) : Bool := decide (0 < s.size) && (byteAt s 0 == (c.toNat : Int))

set_option maxRecDepth 100000 in
theorem hasPrefix_any (s : ByteArray) (c : UInt8) (w : World) (hs : s.size ≤ 65536) :
    Calls Try.prog 100 #[.string s, .string ⟨#[c]⟩] w fun e w' => e = .returned (.bool (pre s c)) ∧ w' = w := by
  have hin : Calls Try.prog 111 #[.string s, .string ⟨#[c]⟩] w fun e w' => e = .returned (.bool (pre s c)) ∧ w' = w := by
    have h1 : (⟨#[c]⟩ : ByteArray).size = 1 := rfl
    by_cases h0 : 0 < s.size
    · have H : Hid (pre s c = (byteAt s 0 == (c.toNat : Int))) := by show _ = _; unfold pre; rw [decide_eq_true h0, Bool.true_and]
      have hx := ext01 s h0 c
      have hI : (1 : Int) ≤ (s.size : Int) := by omega
      generalize (byteAt s 0 == (c.toNat : Int)) = r at *
      generalize hp : (⟨#[c]⟩ : ByteArray) = p at *
      go_enter Try.func111, Try.ntmps111
      go_wp2
      go_ret
      rw [H.out]
      exact ⟨rfl, rfl⟩
    · have H : Hid (pre s c = false) := by show _ = _; unfold pre; rw [decide_eq_false h0]; rfl
      have hI : ¬ (1 : Int) ≤ (s.size : Int) := by omega
      generalize hp : (⟨#[c]⟩ : ByteArray) = p at *
      go_enter Try.func111, Try.ntmps111
      go_wp2
      go_ret
      rw [H.out]
      exact ⟨rfl, rfl⟩
  go_enter Try.func100, Try.ntmps100
  go_wp2_with fail
  refine hin.mono ?_
  rintro e w' ⟨rfl, hq⟩
  obtain rfl := hq.symm
  go_wp2
  go_ret
  exact ⟨rfl, rfl⟩
/-- The value that a text is a literal of, whatever its length. -/
def litV (s : ByteArray) : Option V3 :=
  if (s.toList == [110, 117, 108, 108]) = true then some (0, 0, ⟨#[]⟩) else if (s.toList == [116, 114, 117, 101]) = true then some (1, 1, ⟨#[]⟩) else if (s.toList == [102, 97, 108, 115, 101]) = true then some (1, 0, ⟨#[]⟩)
  else if pre s 39 = true then (unqV s).map (fun t => (3, 0, t)) else if pre s 120 = true then (unhV (s.extract 1 s.size)).map (fun t => (4, 0, t)) else (numV (byteAt s) s.size).map (fun n => (2, n, ⟨#[]⟩))
abbrev LitR (s : ByteArray) (w : World) (e : Ending) (w' : World) : Prop := ∃ k n t, e = .returned (.tuple #[VV k n t, .bool (litV s).isSome]) ∧ (∀ x, litV s = some x → x = (k, n, t)) ∧ Below w.heap.size w w'

set_option maxRecDepth 100000 in
set_option maxHeartbeats 4000000 in
theorem readLiteral_any (s : ByteArray) (w : World) (hs : s.size ≤ 65536) :
    Calls Try.prog 77 #[.string s] w (LitR s w) := by
  have B1 : ∀ k n t, Below w.heap.size w (w.alloc (.cells #[.int .i64 k, .int .i64 n, .string t] 24)) := fun k n t => (Below.refl _ _).alloc (Nat.le_refl _) _
  cases h1 : (s.toList == [110, 117, 108, 108]) with
  | true =>
    have H : Hid (litV s = some (0, 0, ⟨#[]⟩)) := if_pos h1
    go_enter Try.func77, Try.ntmps77
    go_wp2
    exact bodyPost_ret (v := .tuple #[VV 0 0 ⟨#[]⟩, .bool true]) (by go_simp; simp [results, Try.f77, go_sem]) rfl ⟨0, 0, ⟨#[]⟩, by rw [H.out]; rfl, fun x hx => by rw [H.out] at hx; cases hx; rfl, B1 0 0 ⟨#[]⟩⟩
  | false =>
  cases h2 : (s.toList == [116, 114, 117, 101]) with
  | true =>
    have H : Hid (litV s = some (1, 1, ⟨#[]⟩)) := by show _ = _; unfold litV; rw [if_neg (by rw [h1]; decide), if_pos h2]
    go_enter Try.func77, Try.ntmps77
    go_wp2
    exact bodyPost_ret (v := .tuple #[VV 1 1 ⟨#[]⟩, .bool true]) (by go_simp; simp [results, Try.f77, go_sem]) rfl ⟨1, 1, ⟨#[]⟩, by rw [H.out]; rfl, fun x hx => by rw [H.out] at hx; cases hx; rfl, B1 1 1 ⟨#[]⟩⟩
  | false =>
  cases h3 : (s.toList == [102, 97, 108, 115, 101]) with
  | true =>
    have H : Hid (litV s = some (1, 0, ⟨#[]⟩)) := by show _ = _; unfold litV; rw [if_neg (by rw [h1]; decide), if_neg (by rw [h2]; decide), if_pos h3]
    go_enter Try.func77, Try.ntmps77
    go_wp2
    exact bodyPost_ret (v := .tuple #[VV 1 0 ⟨#[]⟩, .bool true]) (by go_simp; simp [results, Try.f77, go_sem]) rfl ⟨1, 0, ⟨#[]⟩, by rw [H.out]; rfl, fun x hx => by rw [H.out] at hx; cases hx; rfl, B1 1 0 ⟨#[]⟩⟩
  | false =>
  have HL : Hid (litV s = if pre s 39 = true then (unqV s).map (fun t => (3, 0, t)) else if pre s 120 = true then (unhV (s.extract 1 s.size)).map (fun t => (4, 0, t)) else (numV (byteAt s) s.size).map (fun n => (2, n, ⟨#[]⟩))) := by show _ = _; unfold litV; rw [if_neg (by rw [h1]; decide), if_neg (by rw [h2]; decide), if_neg (by rw [h3]; decide)]
  have B0 : Below w.heap.size w (w.alloc (.cells #[.int .i64 0, .int .i64 0, .string ⟨#[]⟩] 24)) := B1 0 0 _
  have K0 : (w.alloc (.cells #[.int .i64 0, .int .i64 0, .string ⟨#[]⟩] 24)).heap[w.heap.size]? = some (.cells #[.int .i64 0, .int .i64 0, .string ⟨#[]⟩] 24 (0, 0)) := by show (w.heap.push _)[w.heap.size]? = _; simp
  have hsW : w.heap.size < (w.alloc (.cells #[.int .i64 0, .int .i64 0, .string ⟨#[]⟩] 24)).heap.size := by simp
  obtain ⟨W0, hW0⟩ : ∃ W0, w.alloc (.cells #[.int .i64 0, .int .i64 0, .string ⟨#[]⟩] 24) = W0 := ⟨_, rfl⟩
  rw [hW0] at B0 K0 hsW
  have HK0 : Hid (W0.heap[w.heap.size]? = some (.cells #[.int .i64 0, .int .i64 0, .string ⟨#[]⟩] 24 (0, 0))) := K0
  have fin : ∀ (w2 : World), Below W0.heap.size W0 w2 → w2.cell? ⟨w.heap.size, 0, none⟩ = some (.int .i64 0) ∧ w2.cell? ⟨w.heap.size, 1, none⟩ = some (.int .i64 0) ∧ w2.cell? ⟨w.heap.size, 2, none⟩ = some (.string ⟨#[]⟩) ∧ (∀ o, w2.frozen? ⟨w.heap.size, o, none⟩ = false) ∧ Below w.heap.size w w2 := fun w2 hb => by
    have hx := (hb.block _ hsW).trans HK0.out
    refine ⟨?_, ?_, ?_, fun o => ?_, B0.trans (hb.mono B0.size)⟩
    · simp [World.cell?, hx]
    · simp [World.cell?, hx]
    · simp [World.cell?, hx]
    · simp [World.frozen?, hx]
  have HFin : Hid (∀ (w2 : World), Below W0.heap.size W0 w2 → w2.cell? ⟨w.heap.size, 0, none⟩ = some (.int .i64 0) ∧ w2.cell? ⟨w.heap.size, 1, none⟩ = some (.int .i64 0) ∧ w2.cell? ⟨w.heap.size, 2, none⟩ = some (.string ⟨#[]⟩) ∧ (∀ o, w2.frozen? ⟨w.heap.size, o, none⟩ = false) ∧ Below w.heap.size w w2) := fin
  have hp39 := hasPrefix_any s 39 W0 hs
  have hp120 := hasPrefix_any s 120 W0 hs
  clear fin K0 B1
  cases h4 : pre s 39 with
  | true =>
    rw [h4] at hp39
    have hu := unquote_any s W0 hs
    obtain ⟨o, ho⟩ : ∃ o, unqV s = o := ⟨_, rfl⟩
    have HO : Hid (litV s = o.map (fun t => (3, 0, t))) := by show _ = _; rw [HL.out, if_pos h4, ho]
    rw [ho] at hu
    clear HL hp120 h4 ho
    obtain ⟨t, hT⟩ : ∃ t, o.getD ⟨#[]⟩ = t := ⟨_, rfl⟩
    obtain ⟨ok, hok⟩ : ∃ ok, o.isSome = ok := ⟨_, rfl⟩
    have hu' : Calls Try.prog 101 #[.string s] W0 fun e w' => e = .returned (.tuple #[.string t, .bool ok]) ∧ Below W0.heap.size W0 w' := by rw [← hT, ← hok]; exact hu
    have HX : Hid ((litV s).isSome = ok ∧ ∀ x, litV s = some x → x = (3, 0, t)) := by
      refine ⟨by rw [HO.out, ← hok]; cases o <;> rfl, fun x hx => ?_⟩
      rw [HO.out] at hx
      cases o with
      | none => cases hx
      | some y => cases hx; rw [← hT]; rfl
    clear hu hT hok HO
    go_enter Try.func77, Try.ntmps77
    go_wp2_with fail
    refine hp39.mono ?_
    rintro e w' ⟨rfl, hq⟩
    obtain rfl := hq.symm
    clear hp39
    go_wp2_with fail
    refine hu'.mono ?_
    rintro e w2 ⟨rfl, hb2⟩
    obtain ⟨x0, x1, x2, xf, hB2⟩ := HFin.out w2 hb2
    clear hu' hb2
    go_wp2
    refine bodyPost_ret (v := .tuple #[VV 3 0 t, .bool ok]) (by go_simp; simp [results, Try.f77, go_sem, x0, x1, x2]) rfl ⟨3, 0, t, by rw [HX.out.1], HX.out.2, ?_⟩
    exact ((hB2.setCell (p := ⟨w.heap.size, 0, none⟩) (Nat.le_refl _) _).setCell (p := ⟨w.heap.size, 1, none⟩) (Nat.le_refl _) _).setCell (p := ⟨w.heap.size, 2, none⟩) (Nat.le_refl _) _
  | false =>
  rw [h4] at hp39
  cases h5 : pre s 120 with
  | true =>
    rw [h5] at hp120
    have hpos : 0 < s.size := by
      unfold pre at h5
      rw [Bool.and_eq_true] at h5
      exact of_decide_eq_true h5.1
    have hI : (1 : Int) ≤ (s.size : Int) := by omega
    obtain ⟨r, hr⟩ : ∃ r, s.extract 1 s.size = r := ⟨_, rfl⟩
    have hrs : r.size ≤ 65536 := by rw [← hr, ext_len]; omega
    have hu := unhex_any r W0 hrs
    obtain ⟨o, ho⟩ : ∃ o, unhV r = o := ⟨_, rfl⟩
    have HO : Hid (litV s = o.map (fun t => (4, 0, t))) := by show _ = _; rw [HL.out, if_neg (by rw [h4]; decide), if_pos h5, hr, ho]
    rw [ho] at hu
    clear HL h4 h5 ho hrs
    obtain ⟨t, hT⟩ : ∃ t, o.getD ⟨#[]⟩ = t := ⟨_, rfl⟩
    obtain ⟨ok, hok⟩ : ∃ ok, o.isSome = ok := ⟨_, rfl⟩
    have hu' : Calls Try.prog 102 #[.string r] W0 fun e w' => e = .returned (.tuple #[.string t, .bool ok]) ∧ Below W0.heap.size W0 w' := by rw [← hT, ← hok]; exact hu
    have HX : Hid ((litV s).isSome = ok ∧ ∀ x, litV s = some x → x = (4, 0, t)) := by
      refine ⟨by rw [HO.out, ← hok]; cases o <;> rfl, fun x hx => ?_⟩
      rw [HO.out] at hx
      cases o with
      | none => cases hx
      | some y => cases hx; rw [← hT]; rfl
    clear hu hT hok HO
    go_enter Try.func77, Try.ntmps77
    go_wp2_with fail
    refine hp39.mono ?_
    rintro e w' ⟨rfl, hq⟩
    obtain rfl := hq.symm
    clear hp39
    go_wp2_with fail
    refine hp120.mono ?_
    rintro e w' ⟨rfl, hq⟩
    obtain rfl := hq.symm
    clear hp120
    go_wp2_with fail
    refine hu'.mono ?_
    rintro e w2 ⟨rfl, hb2⟩
    obtain ⟨x0, x1, x2, xf, hB2⟩ := HFin.out w2 hb2
    clear hu' hb2
    go_wp2
    refine bodyPost_ret (v := .tuple #[VV 4 0 t, .bool ok]) (by go_simp; simp [results, Try.f77, go_sem, x0, x1, x2]) rfl ⟨4, 0, t, by rw [HX.out.1], HX.out.2, ?_⟩
    exact ((hB2.setCell (p := ⟨w.heap.size, 0, none⟩) (Nat.le_refl _) _).setCell (p := ⟨w.heap.size, 1, none⟩) (Nat.le_refl _) _).setCell (p := ⟨w.heap.size, 2, none⟩) (Nat.le_refl _) _
  | false =>
    rw [h5] at hp120
    have hu := readNumber_any s W0 hs
    obtain ⟨o, ho⟩ : ∃ o, numV (byteAt s) s.size = o := ⟨_, rfl⟩
    have HO : Hid (litV s = o.map (fun n => (2, n, ⟨#[]⟩))) := by show _ = _; rw [HL.out, if_neg (by rw [h4]; decide), if_neg (by rw [h5]; decide), ho]
    rw [ho] at hu
    clear HL h4 h5 ho
    obtain ⟨t, hT⟩ : ∃ t, o.getD 0 = t := ⟨_, rfl⟩
    obtain ⟨ok, hok⟩ : ∃ ok, o.isSome = ok := ⟨_, rfl⟩
    have hu' : Calls Try.prog 103 #[.string s] W0 fun e w' => e = .returned (.tuple #[.int .i64 t, .bool ok]) ∧ w' = W0 := by rw [← hT, ← hok]; exact hu
    have HX : Hid ((litV s).isSome = ok ∧ ∀ x, litV s = some x → x = (2, t, ⟨#[]⟩)) := by
      refine ⟨by rw [HO.out, ← hok]; cases o <;> rfl, fun x hx => ?_⟩
      rw [HO.out] at hx
      cases o with
      | none => cases hx
      | some y => cases hx; rw [← hT]; rfl
    obtain ⟨x0, x1, x2, xf, hB2⟩ := HFin.out W0 (Below.refl _ _)
    clear hu hT hok HO
    go_enter Try.func77, Try.ntmps77
    go_wp2_with fail
    refine hp39.mono ?_
    rintro e w' ⟨rfl, hq⟩
    obtain rfl := hq.symm
    clear hp39
    go_wp2_with fail
    refine hp120.mono ?_
    rintro e w' ⟨rfl, hq⟩
    obtain rfl := hq.symm
    clear hp120
    go_wp2_with fail
    refine hu'.mono ?_
    rintro e w' ⟨rfl, hq⟩
    obtain rfl := hq.symm
    clear hu'
    go_wp2
    refine bodyPost_ret (v := .tuple #[VV 2 t ⟨#[]⟩, .bool ok]) (by go_simp; simp [results, Try.f77, go_sem, x0, x1, x2]) rfl ⟨2, t, ⟨#[]⟩, by rw [HX.out.1], HX.out.2, ?_⟩
    exact ((hB2.setCell (p := ⟨w.heap.size, 0, none⟩) (Nat.le_refl _) _).setCell (p := ⟨w.heap.size, 1, none⟩) (Nat.le_refl _) _).setCell (p := ⟨w.heap.size, 2, none⟩) (Nat.le_refl _) _
end Go.Proofs.Ytipddjgoohnalaa
