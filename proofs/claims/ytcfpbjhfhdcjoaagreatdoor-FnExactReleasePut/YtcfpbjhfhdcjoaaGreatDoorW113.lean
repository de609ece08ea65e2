/-
  Where a stem stands in entries that are in order: impl.stemPlace, by slices.BinarySearchFunc.
-/
import Derived.Test.YtcfpbjhfhdcjoaaGreatDoorShelf
import Derived.Test.YtcfpbjhfhdcjoaaGreatDoorW112
import Derived.Test.YtcfpbjhfhdcjoaaGreatDoorW76
import Derived.Test.YtcfpbjhfhdcjoaaGreatDoorM4
namespace Go.Proofs.YtcfpbjhfhdcjoaaGreatDoor
open Go.RowKit
set_option linter.unusedVariables false
theorem cmpB_zero : ∀ (x y : List UInt8), Lib.compareBytes x y = 0 ↔ x = y
  | [], [] => by simp [Lib.compareBytes]
  | [], _ :: _ => by simp [Lib.compareBytes]
  | _ :: _, [] => by simp [Lib.compareBytes]
  | a :: x, b :: y => by
    have ih := cmpB_zero x y
    unfold Lib.compareBytes
    by_cases h1 : a < b
    · simp [h1]
      intro e
      subst e
      exact absurd h1 (UInt8.lt_irrefl _)
    · by_cases h2 : b < a
      · simp [h1, h2]
        intro e
        subst e
        exact absurd h2 (UInt8.lt_irrefl _)
      · have e : a = b := UInt8.le_antisymm (UInt8.not_lt.1 h2) (UInt8.not_lt.1 h1)
        subst e
        simp [ih]
theorem cmpB_neg : ∀ (x y : List UInt8), Lib.compareBytes x y < 0 ↔ x < y
  | [], [] => by simp [Lib.compareBytes]
  | [], _ :: _ => by simp [Lib.compareBytes]
  | _ :: _, [] => by simp [Lib.compareBytes]
  | a :: x, b :: y => by
    have ih := cmpB_neg x y
    unfold Lib.compareBytes
    rw [List.cons_lt_cons_iff]
    by_cases h1 : a < b
    · simp [h1]
    · by_cases h2 : b < a
      · simp [h1, h2]
        intro e
        subst e
        exact absurd h2 (UInt8.lt_irrefl _)
      · have e : a = b := UInt8.le_antisymm (UInt8.not_lt.1 h2) (UInt8.not_lt.1 h1)
        subst e
        simp [ih]
/-- The stem at a place comes ahead of a text. -/
def aheadAt (es : List (ByteArray × ByteArray)) (t : ByteArray) (k : Nat) : Prop := ∀ e, es[k]? = some e → Op.bytesLess e.1.toList t.toList = true
/-- Entries by their stems. -/
def AscE (es : List (ByteArray × ByteArray)) : Prop := es.Pairwise fun a b => Op.bytesLess a.1.toList b.1.toList = true
theorem bytesLess_trans {x y z : List UInt8} (h1 : Op.bytesLess x y = true) (h2 : Op.bytesLess y z = true) : Op.bytesLess x z = true := by
  rw [bytesLess_lt, decide_eq_true_eq] at *
  exact List.lt_trans h1 h2
theorem bytesLess_self (x : List UInt8) : Op.bytesLess x x = false := by
  rw [bytesLess_lt]
  exact decide_eq_false (List.lt_irrefl _)
theorem found_none {es : List (ByteArray × ByteArray)} {t : ByteArray} (h : ∀ k, k < es.length → aheadAt es t k) : (es.any fun e => e.1.toList == t.toList) = false := by
  rw [List.any_eq_false]
  intro e he hc
  obtain ⟨k, hk, ek⟩ := List.mem_iff_getElem.1 he
  have h1 := h k hk e (by rw [List.getElem?_eq_getElem hk, ek])
  rw [eq_of_beq hc, bytesLess_self] at h1
  cases h1
theorem found_at {es : List (ByteArray × ByteArray)} {t st fl : ByteArray} {p : Nat} (ha : AscE es) (hx : es[p]? = some (st, fl)) (h1 : ∀ k, k < p → aheadAt es t k) (h2 : Op.bytesLess st.toList t.toList = false) : (es.any fun e => e.1.toList == t.toList) = (Lib.compareBytes st.data.toList t.data.toList == 0) := by
  obtain ⟨hp, hpx⟩ := List.getElem?_eq_some_iff.1 hx
  by_cases h : st = t
  · subst h
    rw [(cmpB_zero _ _).2 rfl]
    rw [List.any_eq_true.2 ⟨(st, fl), List.mem_of_getElem? hx, beq_self_eq_true st.toList⟩]
    rfl
  · have hne : Lib.compareBytes st.data.toList t.data.toList ≠ 0 := fun e => h (data_inj ((cmpB_zero _ _).1 e))
    rw [beq_eq_false_iff_ne.2 hne, List.any_eq_false]
    intro e he hc
    have het : e.1 = t := toList_inj' (eq_of_beq hc)
    obtain ⟨k, hk, ek⟩ := List.mem_iff_getElem.1 he
    rcases Nat.lt_trichotomy k p with h5 | h5 | h5
    · have h3 := h1 k h5 e (by rw [List.getElem?_eq_getElem hk, ek])
      rw [het, bytesLess_self] at h3
      cases h3
    · subst h5
      rw [hpx] at ek
      rw [← ek] at het
      exact h het
    · have h3 := List.pairwise_iff_getElem.1 ha p k hp hk h5
      rw [hpx, ek, het, h2] at h3
      cases h3
set_option maxHeartbeats 1000000 in
theorem cmpStem_any (st fl t : ByteArray) (w : World) :
    Calls Tryz.prog 78 #[.agg #[.string st, .string fl], .string t] w fun e w' => e = .returned (.int .i64 (Lib.compareBytes st.data.toList t.data.toList)) ∧ Below w.heap.size w w' := by
  go_enter Tryz.func78, Tryz.ntmps78
  go_wp2_with fail
  refine (Tryz.strings_Compare st t _).mono ?_
  rintro e w' ⟨rfl, rfl⟩
  go_wp2
  go_ret
  exact ⟨rfl, (Below.refl _ _).alloc (Nat.le_refl _) _⟩
set_option maxHeartbeats 1000000 in
theorem bsearch_any (w : World) (v : Value) (es : List (ByteArray × ByteArray)) (t : ByteArray) (h : EntsAt w v es) (hs : AscE es) (hl : es.length ≤ 100000) :
    Calls Tryz.prog 77 #[v, .string t, .func (.func 78) #[] #[]] w fun e w' => ∃ i : Nat, e = .returned (.tuple #[.int .i64 i, .bool (es.any fun e => e.1.toList == t.toList)]) ∧ Below w.heap.size w w' := by
  obtain ⟨a, cap, rfl, hc, hm⟩ := h.form
  have HS : Hid (EntsAt w (.slice a es.length cap) es) := h
  have HA : Hid (AscE es) := hs
  clear h hs
  unfold maxLen at hm
  go_enter Tryz.func77, Tryz.ntmps77
  go_wp2
  go_loopw [9, 10] (fun i j wr => ∃ (p q : Nat), p ≤ q ∧ q ≤ es.length ∧ i = .int .i64 p ∧ j = .int .i64 q ∧ (∀ k : Nat, k < p → aheadAt es t k) ∧ (∀ k e, q ≤ k → es[k]? = some e → Op.bytesLess e.1.toList t.toList = false) ∧ Below w.heap.size w wr) (fun i j _ => (intOf j).toNat - (intOf i).toNat)
  case atStart => exact ⟨0, es.length, Nat.zero_le _, Nat.le_refl _, rfl, rfl, fun k hk => absurd hk (by omega), fun k e hk he => absurd (List.getElem?_eq_some_iff.1 he).1 (by omega), Below.refl _ _⟩
  case round =>
    obtain ⟨p, q, hpq, hq, rfl, rfl, h1, h2, hb⟩ := hrel
    have HB : Hid (Below w.heap.size w wr) := hb
    have H1 : Hid (∀ k : Nat, k < p → aheadAt es t k) := h1
    have H2 : Hid (∀ k e, q ≤ k → es[k]? = some e → Op.bytesLess e.1.toList t.toList = false) := h2
    clear hb h1 h2
    by_cases hlt : p < q
    · have hml : (p + q) / 2 < es.length := by omega
      obtain ⟨b, off, cap', x, hv, hbl, hx, hxf, e0, e1⟩ := (HS.out.below HB.out).at hml
      cases hv
      have HX : Hid (es[(p + q) / 2]? = some x) := hx
      clear hx hxf
      obtain ⟨st, fl⟩ := x
      simp only at e0 e1
      cases hlx : Op.bytesLess st.toList t.toList with
      | true =>
        have hc : Lib.compareBytes st.data.toList t.data.toList < 0 := by
          rw [cmpB_neg]
          rw [bytesLess_lt, ByteArray.toList_eq, ByteArray.toList_eq] at hlx
          exact of_decide_eq_true hlx
        have HN : Hid (∀ k : Nat, k < (p + q) / 2 + 1 → aheadAt es t k) := fun k hk e he => by
          by_cases ek : k = (p + q) / 2
          · rw [ek, HX.out] at he
            cases he
            exact hlx
          · have := List.pairwise_iff_getElem.1 HA.out k ((p + q) / 2) (by omega) hml (by omega)
            rw [(List.getElem?_eq_some_iff.1 he).2, (List.getElem?_eq_some_iff.1 HX.out).2] at this
            exact bytesLess_trans this hlx
        go_wp2_with fail
        refine (cmpStem_any st fl t _).mono ?_
        rintro e w' ⟨rfl, hb'⟩
        have HB' : Hid (Below w.heap.size w w') := HB.out.trans (hb'.mono HB.out.size)
        clear hb'
        go_wp2
        go_roundw
        case rel => exact ⟨(p + q) / 2 + 1, q, by omega, by omega, by go_num, rfl, HN.out, H2.out, HB'.out⟩
        case measure => simp only [intOf]; omega
      | false =>
        have hc : ¬ Lib.compareBytes st.data.toList t.data.toList < 0 := by
          rw [cmpB_neg]
          rw [bytesLess_lt, ByteArray.toList_eq, ByteArray.toList_eq] at hlx
          exact of_decide_eq_false hlx
        have HN : Hid (∀ k e, (p + q) / 2 ≤ k → es[k]? = some e → Op.bytesLess e.1.toList t.toList = false) := fun k e hk he => by
          by_cases ek : k = (p + q) / 2
          · rw [ek, HX.out] at he
            cases he
            exact hlx
          · have h3 := List.pairwise_iff_getElem.1 HA.out ((p + q) / 2) k hml (List.getElem?_eq_some_iff.1 he).1 (by omega)
            rw [(List.getElem?_eq_some_iff.1 he).2, (List.getElem?_eq_some_iff.1 HX.out).2] at h3
            cases h4 : Op.bytesLess e.1.toList t.toList with
            | false => rfl
            | true => rw [bytesLess_trans h3 h4] at hlx; cases hlx
        go_wp2_with fail
        refine (cmpStem_any st fl t _).mono ?_
        rintro e w' ⟨rfl, hb'⟩
        have HB' : Hid (Below w.heap.size w w') := HB.out.trans (hb'.mono HB.out.size)
        clear hb'
        go_wp2
        go_roundw
        case rel => exact ⟨p, (p + q) / 2, by omega, by omega, rfl, by go_num, H1.out, HN.out, HB'.out⟩
        case measure => simp only [intOf]; omega
    · have hpe : p = q := by omega
      subst hpe
      by_cases hpl : p < es.length
      · obtain ⟨b, off, cap', x, hv, hbl, hx, hxf, e0, e1⟩ := (HS.out.below HB.out).at hpl
        cases hv
        have HX : Hid (es[p]? = some x) := hx
        clear hx hxf
        obtain ⟨st, fl⟩ := x
        simp only at e0 e1
        have HR : Hid ((es.any fun e => e.1.toList == t.toList) = (Lib.compareBytes st.data.toList t.data.toList == 0)) := found_at HA.out HX.out H1.out (H2.out p _ (Nat.le_refl _) HX.out)
        go_wp2_with fail
        refine (cmpStem_any st fl t _).mono ?_
        rintro e w' ⟨rfl, hb'⟩
        have HB' : Hid (Below w.heap.size w w') := HB.out.trans (hb'.mono HB.out.size)
        clear hb'
        go_wp2
        go_ret2
        exact ⟨p, (congrArg (fun b => Ending.returned (.tuple #[.int .i64 p, .bool b])) HR.out).symm, HB'.out⟩
      · have HR : Hid ((es.any fun e => e.1.toList == t.toList) = false) := found_none (fun k hk => H1.out k (by omega))
        go_wp2
        go_ret2
        exact ⟨p, (congrArg (fun b => Ending.returned (.tuple #[.int .i64 p, .bool b])) HR.out).symm, HB.out⟩
set_option maxHeartbeats 1000000 in
theorem stemPlace_any (w : World) (v : Value) (es : List (ByteArray × ByteArray)) (t : ByteArray) (h : EntsAt w v es) (hs : AscE es) (hl : es.length ≤ 100000) :
    Calls Tryz.prog 63 #[v, .string t] w fun e w' => ∃ i : Nat, e = .returned (.tuple #[.int .i64 i, .bool (es.any fun e => e.1.toList == t.toList)]) ∧ Below w.heap.size w w' := by
  have HS : Hid (EntsAt w v es) := h
  have HA : Hid (AscE es) := hs
  clear h hs
  go_enter Tryz.func63, Tryz.ntmps63
  go_wp2_with fail
  refine (bsearch_any _ _ es t HS.out HA.out hl).mono ?_
  rintro e w' ⟨i, rfl, hb⟩
  have HB : Hid (Below w.heap.size w w') := hb
  clear hb
  go_wp2
  go_ret2
  exact ⟨i, rfl, HB.out⟩
theorem entsT_asc {es : List (ByteArray × ByteArray)} (h : entsT es = true) : AscE es ∧ es.length ≤ 24 := by
  unfold entsT at h
  rw [Bool.and_eq_true, decide_eq_true_eq, List.all_eq_true] at h
  refine ⟨?_, h.1⟩
  have step : ∀ i, i + 1 < es.length → ∀ p e, es[i]? = some p → es[i + 1]? = some e → Op.bytesLess p.1.toList e.1.toList = true := fun i hi p e hp he => by
    have := h.2 (i + 1) (List.mem_range.2 hi)
    rw [entAt_succ hp he, Bool.and_eq_true] at this
    exact this.2
  have far : ∀ d i, i + d + 1 < es.length → ∀ p e, es[i]? = some p → es[i + d + 1]? = some e → Op.bytesLess p.1.toList e.1.toList = true := by
    intro d
    induction d with
    | zero => exact fun i hi p e hp he => step i hi p e hp he
    | succ d ih =>
      intro i hi p e hp he
      have hm := List.getElem?_eq_getElem (show i + d + 1 < es.length by omega)
      exact bytesLess_trans (ih i (by omega) p _ hp hm) (step (i + d + 1) hi _ e hm he)
  refine List.pairwise_iff_getElem.2 fun i j hi hj hij => ?_
  exact far (j - i - 1) i (by omega) _ _ (List.getElem?_eq_getElem hi) (by rw [show i + (j - i - 1) + 1 = j by omega]; exact List.getElem?_eq_getElem hj)
/-- One of some stems has an entry. -/
def anyT (gs : List ByteArray) (es : List (ByteArray × ByteArray)) : Bool := gs.any fun g => es.any fun e => e.1.toList == g.toList
set_option maxHeartbeats 1000000 in
theorem anyIn_any (w : World) (vg ve : Value) (gs : List ByteArray) (es : List (ByteArray × ByteArray)) (hg : TextsAt w vg gs) (h : EntsAt w ve es) (hs : AscE es) (hl : es.length ≤ 100000) :
    Calls Tryz.prog 47 #[vg, ve] w fun e w' => e = .returned (.bool (anyT gs es)) ∧ Below w.heap.size w w' := by
  obtain ⟨a, cap, rfl, hc, hm⟩ := hg.form
  have HG : Hid (TextsAt w (.slice a gs.length cap) gs) := hg
  have HS : Hid (EntsAt w ve es) := h
  have HA : Hid (AscE es) := hs
  clear h hs hg
  unfold maxLen at hm
  go_enter Tryz.func47, Tryz.ntmps47
  go_wp2
  go_loopw [11] (fun i wr => ∃ (k : Nat), k ≤ gs.length ∧ i = .int .i64 k ∧ (∀ (j : Nat) (g : ByteArray), j < k → gs[j]? = some g → (es.any fun e => e.1.toList == g.toList) = false) ∧ Below w.heap.size w wr) (fun i _ => gs.length - (intOf i).toNat)
  case atStart => exact ⟨0, Nat.zero_le _, rfl, fun j g hj => absurd hj (by omega), Below.refl _ _⟩
  case round =>
    obtain ⟨k, hk, rfl, hno, hb⟩ := hrel
    have HB : Hid (Below w.heap.size w wr) := hb
    have HN : Hid (∀ (j : Nat) (g : ByteArray), j < k → gs[j]? = some g → (es.any fun e => e.1.toList == g.toList) = false) := hno
    clear hb hno
    by_cases hlt : k < gs.length
    · obtain ⟨b, off, cap', g, hv, hbl, hx, hxf, e0⟩ := (HG.out.below HB.out).at hlt
      cases hv
      have HX : Hid (gs[k]? = some g) := hx
      clear hx hxf
      cases hf : (es.any fun e => e.1.toList == g.toList) with
      | true =>
        have HR : Hid (anyT gs es = true) := List.any_eq_true.2 ⟨g, List.mem_of_getElem? HX.out, hf⟩
        go_wp2_with fail
        refine (stemPlace_any _ _ es g (HS.out.below HB.out) HA.out hl).mono ?_
        rw [hf]
        rintro e w' ⟨i, rfl, hb'⟩
        have HB' : Hid (Below w.heap.size w w') := HB.out.trans (hb'.mono HB.out.size)
        clear hb'
        go_wp2
        go_ret
        exact ⟨(congrArg (fun b => Ending.returned (.bool b)) HR.out).symm, HB'.out⟩
      | false =>
        have HN2 : Hid (∀ (j : Nat) (g : ByteArray), j < k + 1 → gs[j]? = some g → (es.any fun e => e.1.toList == g.toList) = false) := fun j g' hj hg' => by
          by_cases ej : j = k
          · rw [ej, HX.out] at hg'
            cases hg'
            exact hf
          · exact HN.out j g' (by omega) hg'
        go_wp2_with fail
        refine (stemPlace_any _ _ es g (HS.out.below HB.out) HA.out hl).mono ?_
        rw [hf]
        rintro e w' ⟨i, rfl, hb'⟩
        have HB' : Hid (Below w.heap.size w w') := HB.out.trans (hb'.mono HB.out.size)
        clear hb'
        go_wp2
        go_roundw
        case rel => exact ⟨k + 1, by omega, by go_num, HN2.out, HB'.out⟩
        case measure => simp [intOf]; omega
    · have HR : Hid (anyT gs es = false) := by
        show _ = _
        unfold anyT
        rw [List.any_eq_false]
        intro g hg
        obtain ⟨j, hj, ej⟩ := List.mem_iff_getElem.1 hg
        rw [HN.out j g (by omega) (by rw [List.getElem?_eq_getElem hj, ej])]
        simp
      go_wp2
      go_ret
      exact ⟨(congrArg (fun b => Ending.returned (.bool b)) HR.out).symm, HB.out⟩
end Go.Proofs.YtcfpbjhfhdcjoaaGreatDoor
