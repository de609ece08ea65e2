/-
  Where a stem stands in entries that are in order: impl.stemPlace, by slices.BinarySearchFunc.
-/
import Derived.Test.YtkepmjebnkcbgaaGreatDoorShelf
import Derived.Test.YtkepmjebnkcbgaaGreatDoorGW112
import Derived.Test.YtkepmjebnkcbgaaGreatDoorGW78
import Derived.Test.YtkepmjebnkcbgaaGreatDoorM4
import Derived.BigQuiet
namespace Go.Proofs.YtkepmjebnkcbgaaGreatDoor
open Go.RowKit
set_option linter.unusedVariables false
theorem cmpB_zero : ∀ (x y : List UInt8), Lib.compareBytes x y = 0 ↔ x = y
  | [], [] => by simp [Lib.compareBytes]
  | [], _ :: _ => by simp [Lib.compareBytes]
  | _ :: _, [] => by simp [Lib.compareBytes]
  | a :: x, b :: y => by
    have ih := cmpB_zero x y
    unfold Lib.compareBytes
    by_cases h1 : a < b
    · simp [h1]
      intro e
      subst e
      exact absurd h1 (UInt8.lt_irrefl _)
    · by_cases h2 : b < a
      · simp [h1, h2]
        intro e
        subst e
        exact absurd h2 (UInt8.lt_irrefl _)
      · have e : a = b := UInt8.le_antisymm (UInt8.not_lt.1 h2) (UInt8.not_lt.1 h1)
        subst e
        simp [ih]
theorem cmpB_neg : ∀ (x y : List UInt8), Lib.compareBytes x y < 0 ↔ x < y
  | [], [] => by simp [Lib.compareBytes]
  | [], _ :: _ => by simp [Lib.compareBytes]
  | _ :: _, [] => by simp [Lib.compareBytes]
  | a :: x, b :: y => by
    have ih := cmpB_neg x y
    unfold Lib.compareBytes
    rw [List.cons_lt_cons_iff]
    by_cases h1 : a < b
    · simp [h1]
    · by_cases h2 : b < a
      · simp [h1, h2]
        intro e
        subst e
        exact absurd h2 (UInt8.lt_irrefl _)
      · have e : a = b := UInt8.le_antisymm (UInt8.not_lt.1 h2) (UInt8.not_lt.1 h1)
        subst e
        simp [ih]
/-- The stem at a place comes ahead of a text. -/
def aheadAt (es : List (ByteArray × ByteArray)) (t : ByteArray) (k : Nat) : Prop := ∀ e, es[k]? = some e → Op.bytesLess e.1.toList t.toList = true
/-- Entries by their stems. -/
def AscE (es : List (ByteArray × ByteArray)) : Prop := es.Pairwise fun a b => Op.bytesLess a.1.toList b.1.toList = true
theorem bytesLess_trans {x y z : List UInt8} (h1 : Op.bytesLess x y = true) (h2 : Op.bytesLess y z = true) : Op.bytesLess x z = true := by
  rw [bytesLess_lt, decide_eq_true_eq] at *
  exact List.lt_trans h1 h2
theorem bytesLess_self (x : List UInt8) : Op.bytesLess x x = false := by
  rw [bytesLess_lt]
  exact decide_eq_false (List.lt_irrefl _)
theorem found_none {es : List (ByteArray × ByteArray)} {t : ByteArray} (h : ∀ k, k < es.length → aheadAt es t k) : (es.any fun e => e.1.toList == t.toList) = false := by
  rw [List.any_eq_false]
  intro e he hc
  obtain ⟨k, hk, ek⟩ := List.mem_iff_getElem.1 he
  have h1 := h k hk e (by rw [List.getElem?_eq_getElem hk, ek])
  rw [eq_of_beq hc, bytesLess_self] at h1
  cases h1
theorem found_at {es : List (ByteArray × ByteArray)} {t st fl : ByteArray} {p : Nat} (ha : AscE es) (hx : es[p]? = some (st, fl)) (h1 : ∀ k, k < p → aheadAt es t k) (h2 : Op.bytesLess st.toList t.toList = false) : (es.any fun e => e.1.toList == t.toList) = (Lib.compareBytes st.data.toList t.data.toList == 0) := by
  obtain ⟨hp, hpx⟩ := List.getElem?_eq_some_iff.1 hx
  by_cases h : st = t
  · subst h
    rw [(cmpB_zero _ _).2 rfl]
    rw [List.any_eq_true.2 ⟨(st, fl), List.mem_of_getElem? hx, beq_self_eq_true st.toList⟩]
    rfl
  · have hne : Lib.compareBytes st.data.toList t.data.toList ≠ 0 := fun e => h (data_inj ((cmpB_zero _ _).1 e))
    rw [beq_eq_false_iff_ne.2 hne, List.any_eq_false]
    intro e he hc
    have het : e.1 = t := toList_inj' (eq_of_beq hc)
    obtain ⟨k, hk, ek⟩ := List.mem_iff_getElem.1 he
    rcases Nat.lt_trichotomy k p with h5 | h5 | h5
    · have h3 := h1 k h5 e (by rw [List.getElem?_eq_getElem hk, ek])
      rw [het, bytesLess_self] at h3
      cases h3
    · subst h5
      rw [hpx] at ek
      rw [← ek] at het
      exact h het
    · have h3 := List.pairwise_iff_getElem.1 ha p k hp hk h5
      rw [hpx, ek, het, h2] at h3
      cases h3
set_option maxHeartbeats 1000000 in
theorem cmpStem_any (st fl t : ByteArray) (w : World) :
    Calls Tryz.prog 112 #[.agg #[.string st, .string fl], .string t] w fun e w' => e = .returned (.int .i64 (Lib.compareBytes st.data.toList t.data.toList)) ∧ Below w.heap.size w w' := by
  go_enter Tryz.func112, Tryz.ntmps112
  go_wp2_with fail
  refine (Tryz.strings_Compare st t _).mono ?_
  rintro e w' ⟨rfl, rfl⟩
  go_wp2
  go_ret
  exact ⟨rfl, (Below.refl _ _).alloc (Nat.le_refl _) _⟩
set_option maxHeartbeats 1000000 in
theorem bsearch_any (w : World) (v : Value) (es : List (ByteArray × ByteArray)) (t : ByteArray) (h : EntsAt w v es) (hs : AscE es) (hl : es.length ≤ 100000) :
    Calls Tryz.prog 111 #[v, .string t, .func (.func 112) #[] #[]] w fun e w' => ∃ i : Nat, e = .returned (.tuple #[.int .i64 i, .bool (es.any fun e => e.1.toList == t.toList)]) ∧ Below w.heap.size w w' := by
  obtain ⟨a, cap, rfl, hc, hm⟩ := h.form
  have HS : Hid (EntsAt w (.slice a es.length cap) es) := h
  have HA : Hid (AscE es) := hs
  clear h hs
  unfold maxLen at hm
  go_enter Tryz.func111, Tryz.ntmps111
  go_wp2
  go_loopw [9, 10] (fun i j wr => ∃ (p q : Nat), p ≤ q ∧ q ≤ es.length ∧ i = .int .i64 p ∧ j = .int .i64 q ∧ (∀ k : Nat, k < p → aheadAt es t k) ∧ (∀ k e, q ≤ k → es[k]? = some e → Op.bytesLess e.1.toList t.toList = false) ∧ Below w.heap.size w wr) (fun i j _ => (intOf j).toNat - (intOf i).toNat)
  case atStart => exact ⟨0, es.length, Nat.zero_le _, Nat.le_refl _, rfl, rfl, fun k hk => absurd hk (by omega), fun k e hk he => absurd (List.getElem?_eq_some_iff.1 he).1 (by omega), Below.refl _ _⟩
  case round =>
    obtain ⟨p, q, hpq, hq, rfl, rfl, h1, h2, hb⟩ := hrel
    have HB : Hid (Below w.heap.size w wr) := hb
    have H1 : Hid (∀ k : Nat, k < p → aheadAt es t k) := h1
    have H2 : Hid (∀ k e, q ≤ k → es[k]? = some e → Op.bytesLess e.1.toList t.toList = false) := h2
    clear hb h1 h2
    by_cases hlt : p < q
    · have hml : (p + q) / 2 < es.length := by omega
      obtain ⟨b, off, cap', x, hv, hbl, hx, hxf, e0, e1⟩ := (HS.out.below HB.out).at hml
      cases hv
      have HX : Hid (es[(p + q) / 2]? = some x) := hx
      clear hx hxf
      obtain ⟨st, fl⟩ := x
      simp only at e0 e1
      cases hlx : Op.bytesLess st.toList t.toList with
      | true =>
        have hc : Lib.compareBytes st.data.toList t.data.toList < 0 := by
          rw [cmpB_neg]
          rw [bytesLess_lt, ByteArray.toList_eq, ByteArray.toList_eq] at hlx
          exact of_decide_eq_true hlx
        have HN : Hid (∀ k : Nat, k < (p + q) / 2 + 1 → aheadAt es t k) := fun k hk e he => by
          by_cases ek : k = (p + q) / 2
          · rw [ek, HX.out] at he
            cases he
            exact hlx
          · have := List.pairwise_iff_getElem.1 HA.out k ((p + q) / 2) (by omega) hml (by omega)
            rw [(List.getElem?_eq_some_iff.1 he).2, (List.getElem?_eq_some_iff.1 HX.out).2] at this
            exact bytesLess_trans this hlx
        go_wp2_with fail
        refine (cmpStem_any st fl t _).mono ?_
        rintro e w' ⟨rfl, hb'⟩
        have HB' : Hid (Below w.heap.size w w') := HB.out.trans (hb'.mono HB.out.size)
        clear hb'
        go_wp2
        go_roundw
        case rel => exact ⟨(p + q) / 2 + 1, q, by omega, by omega, by go_num, rfl, HN.out, H2.out, HB'.out⟩
        case measure => simp only [intOf]; omega
      | false =>
        have hc : ¬ Lib.compareBytes st.data.toList t.data.toList < 0 := by
          rw [cmpB_neg]
          rw [bytesLess_lt, ByteArray.toList_eq, ByteArray.toList_eq] at hlx
          exact of_decide_eq_false hlx
        have HN : Hid (∀ k e, (p + q) / 2 ≤ k → es[k]? = some e → Op.bytesLess e.1.toList t.toList = false) := fun k e hk he => by
          by_cases ek : k = (p + q) / 2
          · rw [ek, HX.out] at he
            cases he
            exact hlx
          · have h3 := List.pairwise_iff_getElem.1 HA.out ((p + q) / 2) k hml (List.getElem?_eq_some_iff.1 he).1 (by omega)
            rw [(List.getElem?_eq_some_iff.1 he).2, (List.getElem?_eq_some_iff.1 HX.out).2] at h3
            cases h4 : Op.bytesLess e.1.toList t.toList with
            | false => rfl
            | true => rw [bytesLess_trans h3 h4] at hlx; cases hlx
        go_wp2_with fail
        refine (cmpStem_any st fl t _).mono ?_
        rintro e w' ⟨rfl, hb'⟩
        have HB' : Hid (Below w.heap.size w w') := HB.out.trans (hb'.mono HB.out.size)
        clear hb'
        go_wp2
        go_roundw
        case rel => exact ⟨p, (p + q) / 2, by omega, by omega, rfl, by go_num, H1.out, HN.out, HB'.out⟩
        case measure => simp only [intOf]; omega
    · have hpe : p = q := by omega
      subst hpe
      by_cases hpl : p < es.length
      · obtain ⟨b, off, cap', x, hv, hbl, hx, hxf, e0, e1⟩ := (HS.out.below HB.out).at hpl
        cases hv
        have HX : Hid (es[p]? = some x) := hx
        clear hx hxf
        obtain ⟨st, fl⟩ := x
        simp only at e0 e1
        have HR : Hid ((es.any fun e => e.1.toList == t.toList) = (Lib.compareBytes st.data.toList t.data.toList == 0)) := found_at HA.out HX.out H1.out (H2.out p _ (Nat.le_refl _) HX.out)
        go_wp2_with fail
        refine (cmpStem_any st fl t _).mono ?_
        rintro e w' ⟨rfl, hb'⟩
        have HB' : Hid (Below w.heap.size w w') := HB.out.trans (hb'.mono HB.out.size)
        clear hb'
        go_wp2
        go_ret2
        exact ⟨p, (congrArg (fun b => Ending.returned (.tuple #[.int .i64 p, .bool b])) HR.out).symm, HB'.out⟩
      · have HR : Hid ((es.any fun e => e.1.toList == t.toList) = false) := found_none (fun k hk => H1.out k (by omega))
        go_wp2
        go_ret2
        exact ⟨p, (congrArg (fun b => Ending.returned (.tuple #[.int .i64 p, .bool b])) HR.out).symm, HB.out⟩
set_option maxHeartbeats 1000000 in
theorem stemPlace_any (w : World) (v : Value) (es : List (ByteArray × ByteArray)) (t : ByteArray) (h : EntsAt w v es) (hs : AscE es) (hl : es.length ≤ 100000) :
    Calls Tryz.prog 85 #[v, .string t] w fun e w' => ∃ i : Nat, e = .returned (.tuple #[.int .i64 i, .bool (es.any fun e => e.1.toList == t.toList)]) ∧ Below w.heap.size w w' := by
  have HS : Hid (EntsAt w v es) := h
  have HA : Hid (AscE es) := hs
  clear h hs
  go_enter Tryz.func85, Tryz.ntmps85
  go_wp2_with fail
  refine (bsearch_any _ _ es t HS.out HA.out hl).mono ?_
  rintro e w' ⟨i, rfl, hb⟩
  have HB : Hid (Below w.heap.size w w') := hb
  clear hb
  go_wp2
  go_ret2
  exact ⟨i, rfl, HB.out⟩
theorem entsT_asc {es : List (ByteArray × ByteArray)} (h : entsT es = true) : AscE es ∧ es.length ≤ 24 := by
  unfold entsT at h
  rw [Bool.and_eq_true, decide_eq_true_eq, List.all_eq_true] at h
  refine ⟨?_, h.1⟩
  have step : ∀ i, i + 1 < es.length → ∀ p e, es[i]? = some p → es[i + 1]? = some e → Op.bytesLess p.1.toList e.1.toList = true := fun i hi p e hp he => by
    have := h.2 (i + 1) (List.mem_range.2 hi)
    rw [entAt_succ hp he, Bool.and_eq_true] at this
    exact this.2
  have far : ∀ d i, i + d + 1 < es.length → ∀ p e, es[i]? = some p → es[i + d + 1]? = some e → Op.bytesLess p.1.toList e.1.toList = true := by
    intro d
    induction d with
    | zero => exact fun i hi p e hp he => step i hi p e hp he
    | succ d ih =>
      intro i hi p e hp he
      have hm := List.getElem?_eq_getElem (show i + d + 1 < es.length by omega)
      exact bytesLess_trans (ih i (by omega) p _ hp hm) (step (i + d + 1) hi _ e hm he)
  refine List.pairwise_iff_getElem.2 fun i j hi hj hij => ?_
  exact far (j - i - 1) i (by omega) _ _ (List.getElem?_eq_getElem hi) (by rw [show i + (j - i - 1) + 1 = j by omega]; exact List.getElem?_eq_getElem hj)
/-- One of some stems has an entry. -/
def anyT (gs : List ByteArray) (es : List (ByteArray × ByteArray)) : Bool := gs.any fun g => es.any fun e => e.1.toList == g.toList
set_option maxHeartbeats 1000000 in
theorem anyIn_any (w : World) (vg ve : Value) (gs : List ByteArray) (es : List (ByteArray × ByteArray)) (hg : TextsAt w vg gs) (h : EntsAt w ve es) (hs : AscE es) (hl : es.length ≤ 100000) :
    Calls Tryz.prog 123 #[vg, ve] w fun e w' => e = .returned (.bool (anyT gs es)) ∧ Below w.heap.size w w' := by
  obtain ⟨a, cap, rfl, hc, hm⟩ := hg.form
  have HG : Hid (TextsAt w (.slice a gs.length cap) gs) := hg
  have HS : Hid (EntsAt w ve es) := h
  have HA : Hid (AscE es) := hs
  clear h hs hg
  unfold maxLen at hm
  go_enter Tryz.func123, Tryz.ntmps123
  go_wp2
  go_loopw [11] (fun i wr => ∃ (k : Nat), k ≤ gs.length ∧ i = .int .i64 k ∧ (∀ (j : Nat) (g : ByteArray), j < k → gs[j]? = some g → (es.any fun e => e.1.toList == g.toList) = false) ∧ Below w.heap.size w wr) (fun i _ => gs.length - (intOf i).toNat)
  case atStart => exact ⟨0, Nat.zero_le _, rfl, fun j g hj => absurd hj (by omega), Below.refl _ _⟩
  case round =>
    obtain ⟨k, hk, rfl, hno, hb⟩ := hrel
    have HB : Hid (Below w.heap.size w wr) := hb
    have HN : Hid (∀ (j : Nat) (g : ByteArray), j < k → gs[j]? = some g → (es.any fun e => e.1.toList == g.toList) = false) := hno
    clear hb hno
    by_cases hlt : k < gs.length
    · obtain ⟨b, off, cap', g, hv, hbl, hx, hxf, e0⟩ := (HG.out.below HB.out).at hlt
      cases hv
      have HX : Hid (gs[k]? = some g) := hx
      clear hx hxf
      cases hf : (es.any fun e => e.1.toList == g.toList) with
      | true =>
        have HR : Hid (anyT gs es = true) := List.any_eq_true.2 ⟨g, List.mem_of_getElem? HX.out, hf⟩
        go_wp2_with fail
        refine (stemPlace_any _ _ es g (HS.out.below HB.out) HA.out hl).mono ?_
        rw [hf]
        rintro e w' ⟨i, rfl, hb'⟩
        have HB' : Hid (Below w.heap.size w w') := HB.out.trans (hb'.mono HB.out.size)
        clear hb'
        go_wp2
        go_ret
        exact ⟨(congrArg (fun b => Ending.returned (.bool b)) HR.out).symm, HB'.out⟩
      | false =>
        have HN2 : Hid (∀ (j : Nat) (g : ByteArray), j < k + 1 → gs[j]? = some g → (es.any fun e => e.1.toList == g.toList) = false) := fun j g' hj hg' => by
          by_cases ej : j = k
          · rw [ej, HX.out] at hg'
            cases hg'
            exact hf
          · exact HN.out j g' (by omega) hg'
        go_wp2_with fail
        refine (stemPlace_any _ _ es g (HS.out.below HB.out) HA.out hl).mono ?_
        rw [hf]
        rintro e w' ⟨i, rfl, hb'⟩
        have HB' : Hid (Below w.heap.size w w') := HB.out.trans (hb'.mono HB.out.size)
        clear hb'
        go_wp2
        go_roundw
        case rel => exact ⟨k + 1, by omega, by go_num, HN2.out, HB'.out⟩
        case measure => simp [intOf]; omega
    · have HR : Hid (anyT gs es = false) := by
        show _ = _
        unfold anyT
        rw [List.any_eq_false]
        intro g hg
        obtain ⟨j, hj, ej⟩ := List.mem_iff_getElem.1 hg
        rw [HN.out j g (by omega) (by rw [List.getElem?_eq_getElem hj, ej])]
        simp
      go_wp2
      go_ret
      exact ⟨(congrArg (fun b => Ending.returned (.bool b)) HR.out).symm, HB.out⟩
end Go.Proofs.YtkepmjebnkcbgaaGreatDoor
/-
  impl.DeltaOk.
-/
namespace Go.Proofs.YtkepmjebnkcbgaaGreatDoor
open Go.RowKit
set_option linter.unusedVariables false
/-- A change is ok. -/
def deltaT (gs : List ByteArray) (es : List (ByteArray × ByteArray)) (af : Bool) (xs : List Aff) : Bool :=
  goesT gs && (entsT es && (!anyT gs es && (affsT xs && (af || decide (xs.length = 0)))))
/-- A change in a box. -/
def DRow (w : World) (b : Nat) (v0 v1 : Value) (af : Bool) (v3 : Value) : Prop := w.rowIs b 35 4 (fun i => #[v0, v1, Value.bool af, v3][i]?.getD .nilFunc)
theorem DRow.new (w : World) (v0 v1 : Value) (af : Bool) (v3 : Value) : DRow (w.alloc (.cells #[v0, v1, .bool af, v3] 35)) w.heap.size v0 v1 af v3 := rowIs_new _ _
theorem DRow.below {w w' : World} {b : Nat} {v0 v1 v3 : Value} {af : Bool} (h : DRow w b v0 v1 af v3) (hb : Below w.heap.size w w') : DRow w' b v0 v1 af v3 := rowIs_below7 h hb
theorem DRow.c0 {w : World} {b : Nat} {v0 v1 v3 : Value} {af : Bool} (h : DRow w b v0 v1 af v3) : w.cell? ⟨b, 0, none⟩ = some v0 := World.rowIs.cell h (by decide)
theorem DRow.c1 {w : World} {b : Nat} {v0 v1 v3 : Value} {af : Bool} (h : DRow w b v0 v1 af v3) : w.cell? ⟨b, 1, none⟩ = some v1 := World.rowIs.cell h (by decide)
theorem DRow.c2 {w : World} {b : Nat} {v0 v1 v3 : Value} {af : Bool} (h : DRow w b v0 v1 af v3) : w.cell? ⟨b, 2, none⟩ = some (.bool af) := World.rowIs.cell h (by decide)
theorem DRow.c3 {w : World} {b : Nat} {v0 v1 v3 : Value} {af : Bool} (h : DRow w b v0 v1 af v3) : w.cell? ⟨b, 3, none⟩ = some v3 := World.rowIs.cell h (by decide)
set_option maxHeartbeats 2000000 in
theorem implDeltaOk_any (w : World) (vg vc vl : Value) (af : Bool) (gs : List ByteArray) (es : List (ByteArray × ByteArray)) (xs : List Aff) (hg : TextsAt w vg gs) (he : EntsAt w vc es) (ha : AffsAt w vl xs) :
    Calls Tryz.prog 99 #[.agg #[vg, vc, .bool af, vl]] w fun e w' => e = .returned (.bool (deltaT gs es af xs)) ∧ Below w.heap.size w w' := by
  obtain ⟨a, cap, rfl, hc, hm⟩ := hg.form
  obtain ⟨a', cap', rfl, hc', hm'⟩ := he.form
  obtain ⟨a2, cap2, rfl, hc2, hm2⟩ := ha.form
  have HG : Hid (TextsAt w (.slice a gs.length cap) gs) := hg
  have HE : Hid (EntsAt w (.slice a' es.length cap') es) := he
  have HA : Hid (AffsAt w (.slice a2 xs.length cap2) xs) := ha
  unfold maxLen at hm2
  clear hg he ha hm hm' hc hc'
  obtain ⟨W0, hW0⟩ : ∃ W0, w.alloc (.cells #[.slice a gs.length cap, .slice a' es.length cap', .bool af, .slice a2 xs.length cap2] 35) = W0 := ⟨_, rfl⟩
  have B0 : Below w.heap.size w W0 := by rw [← hW0]; exact (Below.refl _ _).alloc (Nat.le_refl _) _
  have R0 : DRow W0 w.heap.size (.slice a gs.length cap) (.slice a' es.length cap') af (.slice a2 xs.length cap2) := by rw [← hW0]; exact DRow.new _ _ _ _ _
  have c0 := R0.c0
  cases h1 : goesT gs with
  | false =>
    have HR : Hid (deltaT gs es af xs = false) := by show _ = _; simp [deltaT, h1]
    go_enter Tryz.func99, Tryz.ntmps99
    go_wp2_with fail
    refine (goesOk_any _ _ gs (HG.out.below B0)).mono ?_
    rw [h1]
    rintro e w1 ⟨rfl, hb1⟩
    have HB1 : Hid (Below w.heap.size w w1) := B0.trans (hb1.mono B0.size)
    clear hb1
    go_wp2
    go_ret
    exact ⟨(congrArg (fun b => Ending.returned (.bool b)) HR.out).symm, HB1.out⟩
  | true =>
  cases h2 : entsT es with
  | false =>
    have HR : Hid (deltaT gs es af xs = false) := by show _ = _; simp [deltaT, h2]
    go_enter Tryz.func99, Tryz.ntmps99
    go_wp2_with fail
    refine (goesOk_any _ _ gs (HG.out.below B0)).mono ?_
    rw [h1]
    rintro e w1 ⟨rfl, hb1⟩
    have HB1 : Hid (Below w.heap.size w w1) := B0.trans (hb1.mono B0.size)
    have d1 := (R0.below hb1).c1
    clear hb1
    go_wp2_with fail
    refine (entriesOk_any _ _ es (HE.out.below HB1.out)).mono ?_
    rw [h2]
    rintro e w2 ⟨rfl, hb2⟩
    have HB2 : Hid (Below w.heap.size w w2) := HB1.out.trans (hb2.mono HB1.out.size)
    clear hb2
    go_wp2
    go_ret
    exact ⟨(congrArg (fun b => Ending.returned (.bool b)) HR.out).symm, HB2.out⟩
  | true =>
  obtain ⟨hasc, h24⟩ := entsT_asc h2
  have HAS : Hid (AscE es) := hasc
  clear hasc
  go_enter Tryz.func99, Tryz.ntmps99
  go_wp2_with fail
  refine (goesOk_any _ _ gs (HG.out.below B0)).mono ?_
  rw [h1]
  rintro e w1 ⟨rfl, hb1⟩
  have HB1 : Hid (Below w.heap.size w w1) := B0.trans (hb1.mono B0.size)
  have R1 := R0.below hb1
  have d1 := R1.c1
  clear hb1 R0 c0 B0 hW0
  go_wp2_with fail
  refine (entriesOk_any _ _ es (HE.out.below HB1.out)).mono ?_
  rw [h2]
  rintro e w2 ⟨rfl, hb2⟩
  have HB2 : Hid (Below w.heap.size w w2) := HB1.out.trans (hb2.mono HB1.out.size)
  have R2 := R1.below hb2
  have d2 := R2.c0
  have d3 := R2.c1
  clear hb2 R1 d1
  go_wp2_with fail
  refine (anyIn_any _ _ _ gs es (HG.out.below HB2.out) (HE.out.below HB2.out) HAS.out (by omega)).mono ?_
  cases h3 : anyT gs es with
  | true =>
    have HR : Hid (deltaT gs es af xs = false) := by show _ = _; simp [deltaT, h3]
    rintro e w3 ⟨rfl, hb3⟩
    have HB3 : Hid (Below w.heap.size w w3) := HB2.out.trans (hb3.mono HB2.out.size)
    clear hb3
    go_wp2
    go_ret
    exact ⟨(congrArg (fun b => Ending.returned (.bool b)) HR.out).symm, HB3.out⟩
  | false =>
    rintro e w3 ⟨rfl, hb3⟩
    have HB3 : Hid (Below w.heap.size w w3) := HB2.out.trans (hb3.mono HB2.out.size)
    have R3 := R2.below hb3
    have d4 := R3.c3
    clear hb3 R2 d2 d3
    go_wp2_with fail
    refine (affixesOk_any _ _ xs (HA.out.below HB3.out)).mono ?_
    cases h4 : affsT xs with
    | false =>
      have HR : Hid (deltaT gs es af xs = false) := by show _ = _; simp [deltaT, h4]
      rintro e w4 ⟨rfl, hb4⟩
      have HB4 : Hid (Below w.heap.size w w4) := HB3.out.trans (hb4.mono HB3.out.size)
      clear hb4
      go_wp2
      go_ret
      exact ⟨(congrArg (fun b => Ending.returned (.bool b)) HR.out).symm, HB4.out⟩
    | true =>
      have HR : Hid (deltaT gs es af xs = (af || decide (xs.length = 0))) := by show _ = _; simp [deltaT, h1, h2, h3, h4]
      rintro e w4 ⟨rfl, hb4⟩
      have HB4 : Hid (Below w.heap.size w w4) := HB3.out.trans (hb4.mono HB3.out.size)
      have R4 := R3.below hb4
      have d5 := R4.c2
      have d6 := R4.c3
      clear hb4 R3 d4
      cases af with
      | true =>
        go_wp2
        go_ret
        exact ⟨(congrArg (fun b => Ending.returned (.bool b)) HR.out).symm, HB4.out⟩
      | false =>
        by_cases h5 : xs.length = 0
        · have HR2 : Hid (deltaT gs es false xs = true) := by show _ = _; rw [HR.out]; simp [h5]
          go_wp2
          go_ret
          exact ⟨(congrArg (fun b => Ending.returned (.bool b)) HR2.out).symm, HB4.out⟩
        · have HR2 : Hid (deltaT gs es false xs = false) := by show _ = _; rw [HR.out]; simp [h5]
          have h6 : ((xs.length : Int) == 0) = false := by rw [beq_eq_false_iff_ne]; omega
          go_wp2
          go_ret
          exact ⟨(congrArg (fun b => Ending.returned (.bool b)) HR2.out).symm, HB4.out⟩
end Go.Proofs.YtkepmjebnkcbgaaGreatDoor
/-
  spec.DeltaOk.
-/
namespace Go.Proofs.YtkepmjebnkcbgaaGreatDoor
open Go.RowKit
set_option linter.unusedVariables false
set_option maxHeartbeats 1000000 in
theorem l5Entries_any (w : World) (v : Value) (es : List (ByteArray × ByteArray)) (h : EntsAt w v es) :
    Calls Tryz.prog 107 #[v] w fun e w' => e = .returned (.bool (entsT es)) ∧ Below w.heap.size w w' := by
  obtain ⟨a', cap', rfl, hc', hm'⟩ := h.form
  have HS : Hid (EntsAt w (.slice a' es.length cap') es) := h
  have HR : Hid (bookT [] es = entsT es) := by show _ = _; simp [bookT, affsT]
  have HN : Hid (AffsAt w (.slice none 0 0) []) := ⟨none, 0, rfl, Nat.le_refl _, Nat.zero_le _, fun i x hx => by simp at hx, fun hn => absurd rfl hn⟩
  clear h
  go_enter Tryz.func107, Tryz.ntmps107
  go_wp2_with fail
  refine (specBookOk_any _ _ _ [] es HN.out HS.out).mono ?_
  rintro e w' ⟨rfl, hb⟩
  have HB : Hid (Below w.heap.size w w') := hb
  clear hb
  rw [HR.out]
  go_wp2
  go_ret
  exact ⟨rfl, HB.out⟩
theorem l1Word_is {g : ByteArray} {b : Bool} (h : wok g = b) (hm : g.size ≤ maxLen) (w : World) : Calls Tryz.prog 103 #[.string g] w fun e w' => e = .returned (.bool b) ∧ w' = w := by
  rw [← h]
  exact l1Word_any g w hm
/-- No entry among the first so many has a stem. -/
def noneTo (es : List (ByteArray × ByteArray)) (g : ByteArray) (k : Nat) : Prop := ∀ (j : Nat) (e : ByteArray × ByteArray), j < k → es[j]? = some e → (e.1.toList == g.toList) = false
set_option maxRecDepth 100000 in
set_option maxHeartbeats 4000000 in
theorem specDeltaOk_any (w : World) (vg vc vl : Value) (af : Bool) (gs : List ByteArray) (es : List (ByteArray × ByteArray)) (xs : List Aff) (hg : TextsAt w vg gs) (he : EntsAt w vc es) (ha : AffsAt w vl xs) :
    Calls Tryz.prog 81 #[.agg #[vg, vc, .bool af, vl]] w fun e w' => e = .returned (.bool (deltaT gs es af xs)) ∧ Below w.heap.size w w' := by
  obtain ⟨a, cap, rfl, hc, hm⟩ := hg.form
  obtain ⟨a', cap', rfl, hc', hm'⟩ := he.form
  obtain ⟨a2, cap2, rfl, hc2, hm2⟩ := ha.form
  have HG : Hid (TextsAt w (.slice a gs.length cap) gs) := hg
  have HE : Hid (EntsAt w (.slice a' es.length cap') es) := he
  have HA : Hid (AffsAt w (.slice a2 xs.length cap2) xs) := ha
  unfold maxLen at hm hm' hm2
  clear hg he ha
  obtain ⟨W0, hW0⟩ : ∃ W0, w.alloc (.cells #[.slice a gs.length cap, .slice a' es.length cap', .bool af, .slice a2 xs.length cap2] 35) = W0 := ⟨_, rfl⟩
  have B0 : Hid (Below w.heap.size w W0) := by rw [← hW0]; exact (Below.refl _ _).alloc (Nat.le_refl _) _
  have R0 : Hid (DRow W0 w.heap.size (.slice a gs.length cap) (.slice a' es.length cap') af (.slice a2 xs.length cap2)) := by rw [← hW0]; exact DRow.new _ _ _ _ _
  go_enter Tryz.func81, Tryz.ntmps81
  go_wp2
  clear hW0
  go_loopw [3] (fun i wr => ∃ (k : Nat), k ≤ gs.length ∧ i = .int .i64 k ∧ (∀ j, j < k → goAt gs j = true) ∧ (∀ (j : Nat) (g : ByteArray), j < k → gs[j]? = some g → noneTo es g es.length) ∧ DRow wr w.heap.size (.slice a gs.length cap) (.slice a' es.length cap') af (.slice a2 xs.length cap2) ∧ Below w.heap.size w wr) (fun i _ => gs.length - (intOf i).toNat)
  case atStart => exact ⟨0, Nat.zero_le _, rfl, fun j hj => absurd hj (by omega), fun j g hj => absurd hj (by omega), R0.out, B0.out⟩
  case round =>
    obtain ⟨k, hk, rfl, hall, hnon, hR, hb⟩ := hrel
    have HAL : Hid (∀ j, j < k → goAt gs j = true) := hall
    have HNO : Hid (∀ (j : Nat) (g : ByteArray), j < k → gs[j]? = some g → noneTo es g es.length) := hnon
    have HR : Hid (DRow wr w.heap.size (.slice a gs.length cap) (.slice a' es.length cap') af (.slice a2 xs.length cap2)) := hR
    have HB : Hid (Below w.heap.size w wr) := hb
    have c0 := hR.c0
    clear hall hnon hR hb
    by_cases hlt : k < gs.length
    · obtain ⟨b, off, cap3, g, hv, hbl, hx, hxf, e0⟩ := (HG.out.below HB.out).at hlt
      cases hv
      have HX : Hid (gs[k]? = some g) := hx
      have HM : Hid (g.size ≤ maxLen) := hxf
      clear hx hxf
      cases hw : wok g with
      | false =>
        have HD : Hid (deltaT gs es af xs = false) := by show _ = _; simp [deltaT, goesT, goesAll_bad k hlt (goAt_no HX.out hw)]
        go_wp2_with fail
        go_quiet ((first | (go_at_call 103; refine (l1Word_is hw HM.out _).mono ?_; rintro e w'' ⟨rfl, rfl⟩; exact ⟨rfl, _, rfl⟩)))
        go_wp2
        go_ret
        exact ⟨(congrArg (fun b => Ending.returned (.bool b)) HD.out).symm, below_drewN70 HB.out _⟩
      | true =>
        have HRN : Hid (∀ n, DRow (wr.drewN n) w.heap.size (.slice (some ⟨b, off, none⟩) gs.length cap) (.slice a' es.length cap') af (.slice a2 xs.length cap2)) := fun n => HR.out
        cases k with
        | zero =>
          rw [Nat.add_zero] at e0
          have HAN : Hid (∀ j, j < 0 + 1 → goAt gs j = true) := fun j hj => by
            obtain rfl : j = 0 := by omega
            rw [goAt_zero HX.out, hw]
          go_wp2_with fail
          go_quiet ((first | (go_at_call 103; refine (l1Word_is hw HM.out _).mono ?_; rintro e w'' ⟨rfl, rfl⟩; exact ⟨rfl, _, rfl⟩)))
          go_wp2
          go_loopw [4] (fun i wr2 => ∃ (m : Nat), m ≤ es.length ∧ i = .int .i64 m ∧ noneTo es g m ∧ DRow wr2 w.heap.size (.slice (some ⟨b, off, none⟩) gs.length cap) (.slice a' es.length cap') af (.slice a2 xs.length cap2) ∧ Below w.heap.size w wr2) (fun i _ => es.length - (intOf i).toNat)
          case atStart => exact ⟨0, Nat.zero_le _, rfl, fun j e hj => absurd hj (by omega), HRN.out _, below_drewN70 HB.out _⟩
          case round =>
            rename World => wx
            obtain ⟨m2, hm2', rfl, hno, hR2, hb2⟩ := hrel
            have HR2 : Hid (DRow wx w.heap.size (.slice (some ⟨b, off, none⟩) gs.length cap) (.slice a' es.length cap') af (.slice a2 xs.length cap2)) := hR2
            have HB2 : Hid (Below w.heap.size w wx) := hb2
            have HN2 : Hid (noneTo es g m2) := hno
            have x0 := hR2.c0
            have x1 := hR2.c1
            clear hno hR2 hb2
            obtain ⟨b9, off9, cap9, g9, hv9, _, hx9, _, y0⟩ := (HG.out.below HB2.out).at hlt
            cases hv9
            rw [HX.out] at hx9
            cases hx9
            rw [Nat.add_zero] at y0
            by_cases hlt2 : m2 < es.length
            · obtain ⟨bb, ob, cb, x, hv2, hbl2, hx2, hxf2, y1, y2⟩ := (HE.out.below HB2.out).at hlt2
              cases hv2
              have HX2 : Hid (es[m2]? = some x) := hx2
              obtain ⟨st, fl⟩ := x
              simp only at y1 y2
              clear hx2 hxf2
              cases heq : (st.toList == g.toList) with
              | true =>
                have HD : Hid (deltaT gs es af xs = false) := by
                  show _ = _
                  have h1 : anyT gs es = true := List.any_eq_true.2 ⟨g, List.mem_of_getElem? HX.out, List.any_eq_true.2 ⟨(st, fl), List.mem_of_getElem? HX2.out, heq⟩⟩
                  simp [deltaT, h1]
                go_wp2_with fail
                go_quiet (fail)
                go_wp2
                go_ret
                exact ⟨(congrArg (fun b => Ending.returned (.bool b)) HD.out).symm, below_drewN70 HB2.out _⟩
              | false =>
                have HN3 : Hid (noneTo es g (m2 + 1)) := fun j e hj he => by
                  by_cases ej : j = m2
                  · rw [ej, HX2.out] at he
                    cases he
                    exact heq
                  · exact HN2.out j e (by omega) he
                go_wp2_with fail
                go_quiet (fail)
                go_wp2
                go_roundw
                case rel => exact ⟨m2 + 1, by omega, by go_num, HN3.out, HR2.out, below_drewN70 HB2.out _⟩
                case measure => simp [intOf]; omega
            · obtain rfl : m2 = es.length := by omega
              have HN4 : Hid (∀ (j : Nat) (g' : ByteArray), j < 0 + 1 → gs[j]? = some g' → noneTo es g' es.length) := fun j g' hj hg' => by
                by_cases ej : j = 0
                · rw [ej, HX.out] at hg'
                  cases hg'
                  exact HN2.out
                · exact HNO.out j g' (by omega) hg'
              go_wp2
              go_roundw
              case rel => exact ⟨0 + 1, by omega, by go_num, HAN.out, HN4.out, HR2.out, HB2.out⟩
              case measure => simp [intOf]; omega
        | succ m =>
          obtain ⟨b', off', cap4, p, hv', _, hp, _, e1⟩ := (HG.out.below HB.out).at (k := m) (by omega)
          cases hv'
          have HP : Hid (gs[m]? = some p) := hp
          clear hp
          cases hlx : Op.bytesLess p.toList g.toList with
          | false =>
            have HD : Hid (deltaT gs es af xs = false) := by show _ = _; simp [deltaT, goesT, goesAll_bad (m + 1) hlt (by rw [goAt_succ HP.out HX.out, hlx, Bool.and_false])]
            go_wp2_with fail
            go_quiet ((first | (go_at_call 103; refine (l1Word_is hw HM.out _).mono ?_; rintro e w'' ⟨rfl, rfl⟩; exact ⟨rfl, _, rfl⟩)))
            go_wp2
            go_ret
            exact ⟨(congrArg (fun b => Ending.returned (.bool b)) HD.out).symm, below_drewN70 HB.out _⟩
          | true =>
            have HAN : Hid (∀ j, j < m + 1 + 1 → goAt gs j = true) := fun j hj => by
              by_cases e : j = m + 1
              · rw [e, goAt_succ HP.out HX.out, hlx, hw]; rfl
              · exact HAL.out j (by omega)
            go_wp2_with fail
            go_quiet ((first | (go_at_call 103; refine (l1Word_is hw HM.out _).mono ?_; rintro e w'' ⟨rfl, rfl⟩; exact ⟨rfl, _, rfl⟩)))
            go_wp2
            go_loopw [4] (fun i wr2 => ∃ (m : Nat), m ≤ es.length ∧ i = .int .i64 m ∧ noneTo es g m ∧ DRow wr2 w.heap.size (.slice (some ⟨b, off, none⟩) gs.length cap) (.slice a' es.length cap') af (.slice a2 xs.length cap2) ∧ Below w.heap.size w wr2) (fun i _ => es.length - (intOf i).toNat)
            case atStart => exact ⟨0, Nat.zero_le _, rfl, fun j e hj => absurd hj (by omega), HRN.out _, below_drewN70 HB.out _⟩
            case round =>
              rename World => wx
              obtain ⟨m2, hm2', rfl, hno, hR2, hb2⟩ := hrel
              have HR2 : Hid (DRow wx w.heap.size (.slice (some ⟨b, off, none⟩) gs.length cap) (.slice a' es.length cap') af (.slice a2 xs.length cap2)) := hR2
              have HB2 : Hid (Below w.heap.size w wx) := hb2
              have HN2 : Hid (noneTo es g m2) := hno
              have x0 := hR2.c0
              have x1 := hR2.c1
              clear hno hR2 hb2
              obtain ⟨b9, off9, cap9, g9, hv9, _, hx9, _, y0⟩ := (HG.out.below HB2.out).at hlt
              cases hv9
              rw [HX.out] at hx9
              cases hx9
              by_cases hlt2 : m2 < es.length
              · obtain ⟨bb, ob, cb, x, hv2, hbl2, hx2, hxf2, y1, y2⟩ := (HE.out.below HB2.out).at hlt2
                cases hv2
                have HX2 : Hid (es[m2]? = some x) := hx2
                obtain ⟨st, fl⟩ := x
                simp only at y1 y2
                clear hx2 hxf2
                cases heq : (st.toList == g.toList) with
                | true =>
                  have HD : Hid (deltaT gs es af xs = false) := by
                    show _ = _
                    have h1 : anyT gs es = true := List.any_eq_true.2 ⟨g, List.mem_of_getElem? HX.out, List.any_eq_true.2 ⟨(st, fl), List.mem_of_getElem? HX2.out, heq⟩⟩
                    simp [deltaT, h1]
                  go_wp2_with fail
                  go_quiet (fail)
                  go_wp2
                  go_ret
                  exact ⟨(congrArg (fun b => Ending.returned (.bool b)) HD.out).symm, below_drewN70 HB2.out _⟩
                | false =>
                  have HN3 : Hid (noneTo es g (m2 + 1)) := fun j e hj he => by
                    by_cases ej : j = m2
                    · rw [ej, HX2.out] at he
                      cases he
                      exact heq
                    · exact HN2.out j e (by omega) he
                  go_wp2_with fail
                  go_quiet (fail)
                  go_wp2
                  go_roundw
                  case rel => exact ⟨m2 + 1, by omega, by go_num, HN3.out, HR2.out, below_drewN70 HB2.out _⟩
                  case measure => simp [intOf]; omega
              · obtain rfl : m2 = es.length := by omega
                have HN4 : Hid (∀ (j : Nat) (g' : ByteArray), j < m + 1 + 1 → gs[j]? = some g' → noneTo es g' es.length) := fun j g' hj hg' => by
                  by_cases ej : j = m + 1
                  · rw [ej, HX.out] at hg'
                    cases hg'
                    exact HN2.out
                  · exact HNO.out j g' (by omega) hg'
                go_wp2
                go_roundw
                case rel => exact ⟨m + 1 + 1, by omega, by go_num, HAN.out, HN4.out, HR2.out, HB2.out⟩
                case measure => simp [intOf]; omega
    · have HGA : Hid (goesT gs = decide (gs.length ≤ 24)) := by show _ = _; simp [goesT, goesAll_good fun i hi => HAL.out i (by omega)]
      have HAF : Hid (anyT gs es = false) := by
        show _ = _
        unfold anyT
        rw [List.any_eq_false]
        intro g hg
        obtain ⟨j, hj, ej⟩ := List.mem_iff_getElem.1 hg
        have h1 := HNO.out j g (by omega) (by rw [List.getElem?_eq_getElem hj, ej])
        rw [Bool.not_eq_true, List.any_eq_false]
        intro e he
        obtain ⟨i, hi, ei⟩ := List.mem_iff_getElem.1 he
        rw [h1 i e hi (by rw [List.getElem?_eq_getElem hi, ei])]
        simp
      have d0 := HR.out.c1
      by_cases h24 : gs.length ≤ 24
      · have hg1 : goesT gs = true := by rw [HGA.out]; simpa using h24
        go_wp2_with fail
        refine (l5Entries_any _ _ es (HE.out.below HB.out)).mono ?_
        cases h2 : entsT es with
        | false =>
          have HD : Hid (deltaT gs es af xs = false) := by show _ = _; simp [deltaT, h2]
          rintro e w2 ⟨rfl, hb2⟩
          have HB2 : Hid (Below w.heap.size w w2) := HB.out.trans (hb2.mono HB.out.size)
          clear hb2
          go_wp2
          go_ret
          exact ⟨(congrArg (fun b => Ending.returned (.bool b)) HD.out).symm, HB2.out⟩
        | true =>
          rintro e w2 ⟨rfl, hb2⟩
          have HB2 : Hid (Below w.heap.size w w2) := HB.out.trans (hb2.mono HB.out.size)
          have R2 := HR.out.below hb2
          have d4 := R2.c3
          clear hb2 d0
          go_wp2_with fail
          refine (l2Affixes_any _ _ xs (HA.out.below HB2.out)).mono ?_
          cases h4 : affsT xs with
          | false =>
            have HD : Hid (deltaT gs es af xs = false) := by show _ = _; simp [deltaT, h4]
            rintro e w4 ⟨rfl, hb4⟩
            have HB4 : Hid (Below w.heap.size w w4) := HB2.out.trans (hb4.mono HB2.out.size)
            clear hb4
            go_wp2
            go_ret
            exact ⟨(congrArg (fun b => Ending.returned (.bool b)) HD.out).symm, HB4.out⟩
          | true =>
            have HD : Hid (deltaT gs es af xs = (af || decide (xs.length = 0))) := by show _ = _; simp [deltaT, hg1, h2, HAF.out, h4]
            rintro e w4 ⟨rfl, hb4⟩
            have HB4 : Hid (Below w.heap.size w w4) := HB2.out.trans (hb4.mono HB2.out.size)
            have R4 := R2.below hb4
            have d5 := R4.c2
            have d6 := R4.c3
            clear hb4 R2 d4
            cases af with
            | true =>
              go_wp2
              go_ret
              exact ⟨(congrArg (fun b => Ending.returned (.bool b)) HD.out).symm, HB4.out⟩
            | false =>
              by_cases h5 : xs.length = 0
              · have HR2 : Hid (deltaT gs es false xs = true) := by show _ = _; rw [HD.out]; simp [h5]
                go_wp2
                go_ret
                exact ⟨(congrArg (fun b => Ending.returned (.bool b)) HR2.out).symm, HB4.out⟩
              · have HR2 : Hid (deltaT gs es false xs = false) := by show _ = _; rw [HD.out]; simp [h5]
                have h6 : ((xs.length : Int) == 0) = false := by rw [beq_eq_false_iff_ne]; omega
                go_wp2
                go_ret
                exact ⟨(congrArg (fun b => Ending.returned (.bool b)) HR2.out).symm, HB4.out⟩
      · have HD : Hid (deltaT gs es af xs = false) := by
          show _ = _
          have hg1 : goesT gs = false := by rw [HGA.out]; simpa using h24
          simp [deltaT, hg1]
        have h24' : ¬ (gs.length : Int) ≤ 24 := by omega
        go_wp2
        go_ret
        exact ⟨(congrArg (fun b => Ending.returned (.bool b)) HD.out).symm, HB.out⟩
end Go.Proofs.YtkepmjebnkcbgaaGreatDoor
/-
  The law FnExactDeltaOk.
-/
namespace Go.Proofs.YtkepmjebnkcbgaaGreatDoor
open Go.RowKit
set_option linter.unusedVariables false
theorem DRow.cs {w : World} {b : Nat} {v0 v1 v3 : Value} {af : Bool} (h : DRow w b v0 v1 af v3) : w.cell? ⟨b, 0, none⟩ = some v0 ∧ w.cell? ⟨b, 1, none⟩ = some v1 ∧ w.cell? ⟨b, 2, none⟩ = some (.bool af) ∧ w.cell? ⟨b, 3, none⟩ = some v3 := ⟨h.c0, h.c1, h.c2, h.c3⟩
/-- The three lists of a change. -/
def DAt (w : World) (vg vc vl : Value) (gs : List ByteArray) (es : List (ByteArray × ByteArray)) (xs : List Aff) : Prop := TextsAt w vg gs ∧ EntsAt w vc es ∧ AffsAt w vl xs
theorem DAt.below {w w' : World} {vg vc vl : Value} {gs : List ByteArray} {es : List (ByteArray × ByteArray)} {xs : List Aff} (h : DAt w vg vc vl gs es xs) (hb : Below w.heap.size w w') : DAt w' vg vc vl gs es xs := ⟨h.1.below hb, h.2.1.below hb, h.2.2.below hb⟩
end Go.Proofs.YtkepmjebnkcbgaaGreatDoor
