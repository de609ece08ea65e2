/-
  Entries held against each other; slices.Contains, slices.Equal, copyOf; spec.l5At, spec.l5Affixes.
-/
import Derived.Test.YtkepmjebnkcbgaaGreatDoorGW116
import Derived.Test.YtkepmjebnkcbgaaGreatDoorGW404
namespace Go.Proofs.YtkepmjebnkcbgaaGreatDoor
open Go.RowKit
set_option linter.unusedVariables false
/-- Two entries are the same. -/
def entEq (x y : ByteArray × ByteArray) : Bool := decide (x.1.toList = y.1.toList ∧ x.2.toList = y.2.toList)
def entIn (es : List (ByteArray × ByteArray)) (x : ByteArray × ByteArray) : Bool := es.any fun y => entEq x y
theorem entIn_take {xs : List (ByteArray × ByteArray)} {x y : ByteArray × ByteArray} {k : Nat} (hy : xs[k]? = some y) : entIn (xs.take (k + 1)) x = (entIn (xs.take k) x || entEq x y) := by
  unfold entIn
  rw [List.take_add_one, hy]
  simp
theorem entIn_found {xs : List (ByteArray × ByteArray)} {x y : ByteArray × ByteArray} {k : Nat} (hy : xs[k]? = some y) (h : entEq x y = true) : entIn xs x = true := by
  simp only [entIn, List.any_eq_true]
  exact ⟨y, List.mem_of_getElem? hy, h⟩
theorem entEq_comm (x y : ByteArray × ByteArray) : entEq x y = entEq y x := by
  unfold entEq
  rw [decide_eq_decide]
  exact ⟨fun ⟨a, b⟩ => ⟨a.symm, b.symm⟩, fun ⟨a, b⟩ => ⟨a.symm, b.symm⟩⟩
set_option maxRecDepth 100000 in
theorem run_entEq2 (st fl st' fl' : ByteArray) (w : World) : (binOp .eql 89 (.agg #[.string st, .string fl]) (.agg #[.string st', .string fl'])).run Tryz.prog w = .ok (.bool (entEq (st, fl) (st', fl'))) w := by
  have hp : Tryz.prog.stoodInHeld 89 = false := by kernel_rfl
  have ht : Tryz.prog.underlying 89 = some (.struct (Tryz.prog.fieldsOf 89)) := by kernel_rfl
  rw [run_eql_struct, run_equalIn_struct w 9999 89 _ _ ht hp]
  simp [Program.fieldsOf, Op.eqFields, Tryz.underlying89, go_sem]
  unfold entEq
  by_cases h1 : st.toList = st'.toList <;> by_cases h2 : fl.toList = fl'.toList <;> simp [h1, h2]
set_option maxRecDepth 100000 in
theorem run_entNe2 (st fl st' fl' : ByteArray) (w : World) : (binOp .neq 89 (.agg #[.string st, .string fl]) (.agg #[.string st', .string fl'])).run Tryz.prog w = .ok (.bool (!entEq (st, fl) (st', fl'))) w := by
  have hp : Tryz.prog.stoodInHeld 89 = false := by kernel_rfl
  have ht : Tryz.prog.underlying 89 = some (.struct (Tryz.prog.fieldsOf 89)) := by kernel_rfl
  rw [run_neq_struct, run_equalIn_struct w 9999 89 _ _ ht hp]
  simp [Program.fieldsOf, Op.eqFields, Tryz.underlying89, go_sem]
  unfold entEq
  by_cases h1 : st.toList = st'.toList <;> by_cases h2 : fl.toList = fl'.toList <;> simp [h1, h2]
theorem run_entGuard (op : BinOp) (x y : Operand) (xs ys : Array Value) (w : World) : (eqGuard op 89 x y (.agg xs) (.agg ys)).run Tryz.prog w = .ok () w := run_eqGuard_agg w op _ x y xs ys (by kernel_rfl)
set_option maxRecDepth 100000 in
theorem run_affNe5 (f st ad wh f' st' ad' wh' : ByteArray) (fr fr' : Bool) (w : World) : (binOp .neq 87 (.agg #[.string f, .bool fr, .string st, .string ad, .string wh]) (.agg #[.string f', .bool fr', .string st', .string ad', .string wh'])).run Tryz.prog w = .ok (.bool (!affEq ⟨f, fr, st, ad, wh⟩ ⟨f', fr', st', ad', wh'⟩)) w := by
  have hp : Tryz.prog.stoodInHeld 87 = false := by kernel_rfl
  have ht : Tryz.prog.underlying 87 = some (.struct (Tryz.prog.fieldsOf 87)) := by kernel_rfl
  rw [run_neq_struct, run_equalIn_struct w 9999 87 _ _ ht hp]
  simp [Program.fieldsOf, Op.eqFields, Tryz.underlying87, go_sem]
  unfold affEq
  by_cases h1 : f.toList = f'.toList <;> by_cases h2 : fr = fr' <;> by_cases h3 : st.toList = st'.toList <;> by_cases h4 : ad.toList = ad'.toList <;> by_cases h5 : wh.toList = wh'.toList <;> simp [h1, h2, h3, h4, h5]
set_option maxHeartbeats 1000000 in
theorem eIndex_any (w : World) (v : Value) (xs : List (ByteArray × ByteArray)) (x : ByteArray × ByteArray) (h : EntsAt w v xs) :
    Calls Tryz.prog 114 #[v, .agg #[.string x.1, .string x.2]] w fun e w' => (∃ r : Int, e = .returned (.int .i64 r) ∧ decide (0 ≤ r) = entIn xs x) ∧ Below w.heap.size w w' := by
  obtain ⟨a, cap, rfl, hc, hm⟩ := h.form
  have HS : Hid (EntsAt w (.slice a xs.length cap) xs) := h
  clear h
  unfold maxLen at hm
  obtain ⟨st, fl⟩ := x
  dsimp only
  have hgd := run_entGuard
  have heq := run_entEq2
  go_enter Tryz.func114, Tryz.ntmps114
  go_wp2
  go_loopw [8] (fun i wr => ∃ (k : Nat), k ≤ xs.length ∧ i = .int .i64 k ∧ entIn (xs.take k) (st, fl) = false ∧ (wr.cell? ⟨w.heap.size, 0, none⟩ = some (.string st) ∧ wr.cell? ⟨w.heap.size, 1, none⟩ = some (.string fl)) ∧ w.heap.size < wr.heap.size ∧ Below w.heap.size w wr) (fun i _ => xs.length - (intOf i).toNat)
  case atStart => exact ⟨0, Nat.zero_le _, rfl, rfl, ⟨by simp [go_sem], by simp [go_sem]⟩, by simp, (Below.refl _ _).alloc (Nat.le_refl _) _⟩
  case round =>
    obtain ⟨k, hk, rfl, hni, hbox, hlt0, hb⟩ := hrel
    have HB : Hid (Below w.heap.size w wr) := hb
    have HNI : Hid (entIn (xs.take k) (st, fl) = false) := hni
    have HBOX : Hid ((wr.cell? ⟨w.heap.size, 0, none⟩ = some (.string st) ∧ wr.cell? ⟨w.heap.size, 1, none⟩ = some (.string fl))) := hbox
    obtain ⟨s0, s1⟩ := hbox
    clear hb hni
    by_cases hlt : k < xs.length
    · obtain ⟨b, off, cap', y, hv, hbl, hy, hyf, e0, e1⟩ := (HS.out.below HB.out).at hlt
      cases hv
      have HY : Hid (xs[k]? = some y) := hy
      obtain ⟨st', fl'⟩ := y
      simp only at e0 e1
      clear hy hyf
      cases hq : entEq (st, fl) (st', fl') with
      | true =>
        have HI : Hid (entIn xs (st, fl) = true) := entIn_found HY.out hq
        go_wp2_with fail
        go_quiet (fail)
        go_wp2
        go_ret
        refine ⟨⟨k, rfl, ?_⟩, below_drewN70 HB.out _⟩
        rw [HI.out]
        simp
      | false =>
        have HI : Hid (entIn (xs.take (k + 1)) (st, fl) = false) := by show entIn (xs.take (k + 1)) (st, fl) = false; rw [entIn_take HY.out, HNI.out, hq]; rfl
        go_wp2_with fail
        go_quiet (fail)
        go_wp2
        go_roundw
        case rel => exact ⟨k + 1, by omega, by go_num, HI.out, HBOX.out, hlt0, below_drewN70 HB.out _⟩
        case measure => simp [intOf]; omega
    · have HI : Hid (entIn xs (st, fl) = false) := by
        have := HNI.out
        rwa [List.take_of_length_le (by omega)] at this
      go_wp2
      go_ret
      refine ⟨⟨-1, rfl, ?_⟩, HB.out⟩
      rw [HI.out]
      rfl
set_option maxHeartbeats 1000000 in
theorem eContains_any (w : World) (v : Value) (xs : List (ByteArray × ByteArray)) (x : ByteArray × ByteArray) (h : EntsAt w v xs) :
    Calls Tryz.prog 86 #[v, .agg #[.string x.1, .string x.2]] w fun e w' => e = .returned (.bool (entIn xs x)) ∧ Below w.heap.size w w' := by
  obtain ⟨a, cap, rfl, hc, hm⟩ := h.form
  have HS : Hid (EntsAt w (.slice a xs.length cap) xs) := h
  clear h
  obtain ⟨st, fl⟩ := x
  dsimp only
  go_enter Tryz.func86, Tryz.ntmps86
  go_wp2_with fail
  refine (eIndex_any _ _ xs (st, fl) (HS.out.below ((Below.refl _ _).alloc (Nat.le_refl _) _))).mono ?_
  rintro e w' ⟨⟨r, rfl, hr⟩, hb'⟩
  have HR : Hid (decide (0 ≤ r) = entIn xs (st, fl)) := hr
  have HB : Hid (Below w.heap.size w w') := Below.trans ((Below.refl _ _).alloc (Nat.le_refl _) _) (hb'.mono (by simp <;> omega))
  clear hr hb'
  go_wp2
  go_ret
  rw [← HR.out]
  exact ⟨rfl, HB.out⟩
/-- Two lists of affixes are the same, in order. -/
def affsEqTo (xs ys : List Aff) (k : Nat) : Bool := (List.range k).all fun i => match xs[i]?, ys[i]? with | some x, some y => affEq x y | _, _ => true
def affsEq (xs ys : List Aff) : Bool := decide (xs.length = ys.length) && affsEqTo xs ys xs.length
theorem affsEqTo_succ {xs ys : List Aff} {k : Nat} {x y : Aff} (hx : xs[k]? = some x) (hy : ys[k]? = some y) : affsEqTo xs ys (k + 1) = (affsEqTo xs ys k && affEq x y) := by
  unfold affsEqTo
  rw [List.range_succ, List.all_append]
  simp [hx, hy]
theorem affsEqTo_bad {xs ys : List Aff} {k n : Nat} {x y : Aff} (hk : k < n) (hx : xs[k]? = some x) (hy : ys[k]? = some y) (h : affEq x y = false) : affsEqTo xs ys n = false := by
  unfold affsEqTo
  rw [List.all_eq_false]
  exact ⟨k, List.mem_range.2 hk, by simp [hx, hy, h]⟩
set_option maxHeartbeats 1000000 in
theorem sEqualA_any (w : World) (v u : Value) (xs ys : List Aff) (h : AffsAt w v xs) (h' : AffsAt w u ys) :
    Calls Tryz.prog 87 #[v, u] w fun e w' => e = .returned (.bool (affsEq xs ys)) ∧ Below w.heap.size w w' := by
  obtain ⟨a, cap, rfl, hc, hm⟩ := h.form
  obtain ⟨a', cap', rfl, hc', hm'⟩ := h'.form
  have HS : Hid (AffsAt w (.slice a xs.length cap) xs) := h
  have HS' : Hid (AffsAt w (.slice a' ys.length cap') ys) := h'
  clear h h'
  unfold maxLen at hm hm'
  have hgd := run_affGuard
  have heq := run_affNe5
  by_cases hl : xs.length = ys.length
  · have HE : Hid (affsEq xs ys = affsEqTo xs ys xs.length) := by show affsEq xs ys = _; simp [affsEq, hl]
    have hl' : (xs.length : Int) = (ys.length : Int) := by omega
    go_enter Tryz.func87, Tryz.ntmps87
    go_wp2
    go_loopw [13] (fun i wr => ∃ (k : Nat), k ≤ xs.length ∧ i = .int .i64 k ∧ affsEqTo xs ys k = true ∧ Below w.heap.size w wr) (fun i _ => xs.length - (intOf i).toNat)
    case atStart => exact ⟨0, Nat.zero_le _, rfl, rfl, Below.refl _ _⟩
    case round =>
      obtain ⟨k, hk, rfl, hq, hb⟩ := hrel
      have HQ : Hid (affsEqTo xs ys k = true) := hq
      have HB : Hid (Below w.heap.size w wr) := hb
      clear hq hb
      by_cases hlt : k < xs.length
      · obtain ⟨b, off, cap1, x, hv, hbl, hx, hxf, e0, e1, e2, e3, e4⟩ := (HS.out.below HB.out).at hlt
        cases hv
        obtain ⟨b', off', cap2, y, hv', hbl', hy, hyf, f0, f1, f2, f3, f4⟩ := (HS'.out.below HB.out).at (k := k) (by omega)
        cases hv'
        have HX : Hid (xs[k]? = some x) := hx
        have HY : Hid (ys[k]? = some y) := hy
        obtain ⟨f, fr, st, ad, wh⟩ := x
        obtain ⟨f', fr', st', ad', wh'⟩ := y
        simp only at e0 e1 e2 e3 e4 f0 f1 f2 f3 f4
        have hk2 : k < ys.length := by omega
        clear hx hxf hy hyf
        cases hq : affEq ⟨f, fr, st, ad, wh⟩ ⟨f', fr', st', ad', wh'⟩ with
        | true =>
          have HI : Hid (affsEqTo xs ys (k + 1) = true) := by show affsEqTo xs ys (k + 1) = true; rw [affsEqTo_succ HX.out HY.out, HQ.out, hq]; rfl
          go_wp2_with fail
          go_quiet (fail)
          go_wp2
          go_roundw
          case rel => exact ⟨k + 1, by omega, by go_num, HI.out, below_drewN70 HB.out _⟩
          case measure => simp [intOf]; omega
        | false =>
          have HI : Hid (affsEqTo xs ys xs.length = false) := affsEqTo_bad hlt HX.out HY.out hq
          go_wp2_with fail
          go_quiet (fail)
          go_wp2
          go_ret
          rw [HE.out, HI.out]
          exact ⟨rfl, below_drewN70 HB.out _⟩
      · obtain rfl : k = xs.length := by omega
        go_wp2
        go_ret
        rw [HE.out, HQ.out]
        exact ⟨rfl, HB.out⟩
  · have HE : Hid (affsEq xs ys = false) := by show affsEq xs ys = _; simp [affsEq, hl]
    have hl' : ¬ (xs.length : Int) = (ys.length : Int) := by omega
    go_enter Tryz.func87, Tryz.ntmps87
    go_wp2
    go_ret
    rw [HE.out]
    exact ⟨rfl, Below.refl _ _⟩
set_option maxHeartbeats 1000000 in
theorem l5Affixes_any (w : World) (v u : Value) (xs ys : List Aff) (h : AffsAt w v xs) (h' : AffsAt w u ys) :
    Calls Tryz.prog 73 #[v, u] w fun e w' => e = .returned (.bool (affsEq xs ys)) ∧ Below w.heap.size w w' := by
  obtain ⟨a, cap, rfl, hc, hm⟩ := h.form
  obtain ⟨a', cap', rfl, hc', hm'⟩ := h'.form
  have HS : Hid (AffsAt w (.slice a xs.length cap) xs) := h
  have HS' : Hid (AffsAt w (.slice a' ys.length cap') ys) := h'
  clear h h'
  unfold maxLen at hm hm'
  have hgd := run_affGuard
  have heq := run_affNe5
  by_cases hl : xs.length = ys.length
  · have HE : Hid (affsEq xs ys = affsEqTo xs ys xs.length) := by show affsEq xs ys = _; simp [affsEq, hl]
    have hl' : (xs.length : Int) = (ys.length : Int) := by omega
    go_enter Tryz.func73, Tryz.ntmps73
    go_wp2
    go_loopw [5] (fun i wr => ∃ (k : Nat), k ≤ xs.length ∧ i = .int .i64 k ∧ affsEqTo xs ys k = true ∧ Below w.heap.size w wr) (fun i _ => xs.length - (intOf i).toNat)
    case atStart => exact ⟨0, Nat.zero_le _, rfl, rfl, Below.refl _ _⟩
    case round =>
      obtain ⟨k, hk, rfl, hq, hb⟩ := hrel
      have HQ : Hid (affsEqTo xs ys k = true) := hq
      have HB : Hid (Below w.heap.size w wr) := hb
      clear hq hb
      by_cases hlt : k < xs.length
      · obtain ⟨b, off, cap1, x, hv, hbl, hx, hxf, e0, e1, e2, e3, e4⟩ := (HS.out.below HB.out).at hlt
        cases hv
        obtain ⟨b', off', cap2, y, hv', hbl', hy, hyf, f0, f1, f2, f3, f4⟩ := (HS'.out.below HB.out).at (k := k) (by omega)
        cases hv'
        have HX : Hid (xs[k]? = some x) := hx
        have HY : Hid (ys[k]? = some y) := hy
        obtain ⟨f, fr, st, ad, wh⟩ := x
        obtain ⟨f', fr', st', ad', wh'⟩ := y
        simp only at e0 e1 e2 e3 e4 f0 f1 f2 f3 f4
        have hk2 : k < ys.length := by omega
        clear hx hxf hy hyf
        cases hq : affEq ⟨f, fr, st, ad, wh⟩ ⟨f', fr', st', ad', wh'⟩ with
        | true =>
          have HI : Hid (affsEqTo xs ys (k + 1) = true) := by show affsEqTo xs ys (k + 1) = true; rw [affsEqTo_succ HX.out HY.out, HQ.out, hq]; rfl
          go_wp2_with fail
          go_quiet (fail)
          go_wp2
          go_roundw
          case rel => exact ⟨k + 1, by omega, by go_num, HI.out, below_drewN70 HB.out _⟩
          case measure => simp [intOf]; omega
        | false =>
          have HI : Hid (affsEqTo xs ys xs.length = false) := affsEqTo_bad hlt HX.out HY.out hq
          go_wp2_with fail
          go_quiet (fail)
          go_wp2
          go_ret
          rw [HE.out, HI.out]
          exact ⟨rfl, below_drewN70 HB.out _⟩
      · obtain rfl : k = xs.length := by omega
        go_wp2
        go_ret
        rw [HE.out, HQ.out]
        exact ⟨rfl, HB.out⟩
  · have HE : Hid (affsEq xs ys = false) := by show affsEq xs ys = _; simp [affsEq, hl]
    have hl' : ¬ (xs.length : Int) = (ys.length : Int) := by omega
    go_enter Tryz.func73, Tryz.ntmps73
    go_wp2
    go_ret
    rw [HE.out]
    exact ⟨rfl, Below.refl _ _⟩
/-- How many entries come ahead of a stem. -/
def placeT (es : List (ByteArray × ByteArray)) (t : ByteArray) : Nat := (es.takeWhile fun e => Op.bytesLess e.1.toList t.toList).length
theorem placeT_eq {es : List (ByteArray × ByteArray)} {t : ByteArray} {k : Nat} (hk : k ≤ es.length) (h1 : ∀ j, j < k → aheadAt es t j) (h2 : k = es.length ∨ ∃ e, es[k]? = some e ∧ Op.bytesLess e.1.toList t.toList = false) : placeT es t = k := by
  unfold placeT
  induction es generalizing k with
  | nil => simp at hk; simp [hk]
  | cons x xs ih =>
    cases k with
    | zero =>
      rcases h2 with h2 | ⟨e, he, h2⟩
      · simp at h2
      · simp only [List.getElem?_cons_zero, Option.some.injEq] at he
        subst he
        simp [h2]
    | succ k =>
      have h0 := h1 0 (by omega) x (by simp)
      rw [List.takeWhile_cons, if_pos h0, List.length_cons]
      congr 1
      refine ih (by simpa using hk) (fun j hj e he => h1 (j + 1) (by omega) e (by simpa using he)) ?_
      rcases h2 with h2 | ⟨e, he, h2⟩
      · exact .inl (by simpa using h2)
      · exact .inr ⟨e, by simpa using he, h2⟩
set_option maxHeartbeats 2000000 in
theorem l5At_any (w : World) (v : Value) (es : List (ByteArray × ByteArray)) (t : ByteArray) (h : EntsAt w v es) (hs : AscE es) :
    Calls Tryz.prog 72 #[v, .string t] w fun e w' => e = .returned (.tuple #[.int .i64 (placeT es t), .bool (es.any fun e => e.1.toList == t.toList)]) ∧ Below w.heap.size w w' := by
  obtain ⟨a, cap, rfl, hc, hm⟩ := h.form
  have HS : Hid (EntsAt w (.slice a es.length cap) es) := h
  have HAS : Hid (AscE es) := hs
  clear h hs
  unfold maxLen at hm
  go_enter Tryz.func72, Tryz.ntmps72
  go_wp2
  go_loopw [6] (fun i wr => ∃ (k : Nat), k ≤ es.length ∧ i = .int .i64 k ∧ (∀ j, j < k → aheadAt es t j) ∧ Below w.heap.size w wr) (fun i _ => es.length - (intOf i).toNat)
  case atStart => exact ⟨0, Nat.zero_le _, rfl, fun j hj => absurd hj (by omega), Below.refl _ _⟩
  case round =>
    obtain ⟨k, hk, rfl, ha, hb⟩ := hrel
    have HA : Hid (∀ j, j < k → aheadAt es t j) := ha
    have HB : Hid (Below w.heap.size w wr) := hb
    clear ha hb
    by_cases hlt : k < es.length
    · obtain ⟨b, off, cap', x, hv, hbl, hx, hxf, e0, e1⟩ := (HS.out.below HB.out).at hlt
      cases hv
      have HX : Hid (es[k]? = some x) := hx
      obtain ⟨st, fl⟩ := x
      simp only at e0 e1
      clear hx hxf
      have i0 : (0 : Int) ≤ (k : Int) := by omega
      have i1 : (k : Int) < (es.length : Int) := by omega
      cases hq : Op.bytesLess st.toList t.toList with
      | true =>
        have HN : Hid (∀ j, j < k + 1 → aheadAt es t j) := fun j hj => by
          by_cases e : j = k
          · subst e
            intro e he
            rw [HX.out] at he
            cases he
            exact hq
          · exact HA.out j (by omega)
        go_wp2
        go_roundw
        case rel => exact ⟨k + 1, by omega, by go_num, HN.out, HB.out⟩
        case measure => simp [intOf]; omega
      | false =>
        have HP : Hid (placeT es t = k) := placeT_eq hk HA.out (.inr ⟨_, HX.out, hq⟩)
        have HF : Hid ((es.any fun e => e.1.toList == t.toList) = (st.toList == t.toList)) := by
          show _ = _
          rw [found_at HAS.out HX.out HA.out hq, Bool.eq_iff_iff, beq_iff_eq, beq_iff_eq, cmpB_zero, ByteArray.toList_eq, ByteArray.toList_eq]
        go_wp2_with fail
        go_quiet (fail)
        go_wp2
        go_ret2
        rw [HP.out, HF.out]
        exact ⟨rfl, below_drewN70 HB.out _⟩
    · have hke : k = es.length := by omega
      subst hke
      have HP : Hid (placeT es t = es.length) := placeT_eq hk HA.out (.inl rfl)
      have HF : Hid ((es.any fun e => e.1.toList == t.toList) = false) := found_none HA.out
      have hd : decide ((es.length : Int) < (es.length : Int)) = false := by simp
      go_wp2_with fail
      go_quiet (fail)
      go_wp2
      go_ret2
      rw [HP.out, HF.out]
      exact ⟨rfl, below_drewN70 HB.out _⟩
end Go.Proofs.YtkepmjebnkcbgaaGreatDoor
