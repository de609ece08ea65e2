/-
  Texts that a law is given: opened, their size, a copy of them.
-/
import Derived.Test.YtkepmjebnkcbgaaGreatDoorW71
import Derived.Test.YtkepmjebnkcbgaaGreatDoorGW78
import Derived.Test.YtkepmjebnkcbgaaGreatDoorGW92
import Derived.Test.YtkepmjebnkcbgaaGreatDoorGW2
namespace Go.Proofs.YtkepmjebnkcbgaaGreatDoor
open Go.ChangeShapes Go.WideShapes Go.ChangeAt Go.RowKit
set_option linter.unusedVariables false
theorem TextsAt.fit {w : World} {v : Value} {xs : List ByteArray} (h : TextsAt w v xs) : ∀ (i : Nat) (x : ByteArray), xs[i]? = some x → x.size ≤ maxLen := by
  obtain ⟨a, cap, hv, hc, hm, hf, hh⟩ := h
  exact hf
set_option maxRecDepth 100000 in
theorem open_texts {H : Type} {enc : TypeId × Value → H} {w : World} {base : Nat} {spare : Nat → Bool} {held : Bool} {fuel : Nat} {v : Value} {x : DataW H × List MemPlace}
    (h : DataW.trod enc Tryz.prog w base spare held fuel 22 [v] = some x) : ∃ xs, TextsAt w v xs := by
  rcases Go.Deep.open_slice1 Tryz.underlying22 (by kernel_rfl) h with ⟨h0, _⟩ | ⟨a, len, cap, m, n, V, D, Pl, hcs, hb, hl, hm, hmm, _, hall⟩
  · simp at h0; subst h0
    exact ⟨[], none, 0, rfl, Nat.le_refl _, Nat.zero_le _, fun i x hx => by simp at hx, fun hn => absurd rfl hn⟩
  · simp at hcs; subst hcs
    have hlm : len ≤ m := by rw [hmm]; split <;> omega
    obtain ⟨q, hq⟩ := Go.Deep.choose_lt (α := ByteArray) (n := len) (p := fun i e => w.cell? (a.add i) = some (.string e) ∧ e.size ≤ maxLen) (fun i hi => by
      obtain ⟨c0, t0⟩ := hall i (by omega)
      obtain ⟨z0, e0, -, l0⟩ := DataW.trod_string Tryz.underlying9 t0
      simp only [List.cons.injEq, and_true] at e0
      exact ⟨z0, by rw [c0, e0], l0⟩)
    refine ⟨(List.range len).map q, some a, cap, by simp, by simpa using hl, by simpa using Nat.le_trans hl hm, fun i x hx => ?_, fun hn => ?_⟩
    · obtain ⟨hi, rfl⟩ := range_map_at71 hx
      exact (hq i hi).2
    have hpos : 0 < len := by
      rcases Nat.eq_zero_or_pos len with h0 | h0
      · subst h0; simp at hn
      · exact h0
    have c0 := (hq 0 hpos).1
    have ha : a.add 0 = a := by simp [Addr.add]
    rw [ha] at c0
    obtain ⟨hlt, hs⟩ := cell_lt71 c0
    obtain ⟨b, off, sp⟩ := a
    simp only at hs hlt
    subst hs
    refine ⟨b, off, rfl, hlt, fun i e he => ?_⟩
    obtain ⟨hi, rfl⟩ := range_map_at71 he
    have := (hq i hi).1
    rwa [add_at71] at this
set_option maxHeartbeats 1000000 in
theorem szStringS_any (w : World) (v : Value) (xs : List ByteArray) (left : Int) (h : TextsAt w v xs) (h0 : 0 ≤ left) (h1 : left ≤ 1048576) :
    Calls Tryz.prog 20 #[v, .int .i64 left] w fun e w' => (∃ r : Int, e = .returned (.int .i64 r) ∧ r ≤ left ∧ (0 ≤ r → xs.length ≤ 1048576)) ∧ Below w.heap.size w w' := by
  obtain ⟨a, cap, rfl, hc, hm⟩ := h.form
  have HS : Hid (TextsAt w (.slice a xs.length cap) xs) := h
  clear h
  unfold maxLen at hm
  by_cases hl : left - xs.length < 0
  · go_enter Tryz.func20, Tryz.ntmps20
    go_wp2
    go_ret
    exact ⟨⟨-1, rfl, by omega, by omega⟩, Below.refl _ _⟩
  · go_enter Tryz.func20, Tryz.ntmps20
    go_wp2
    go_loopw [1, 5] (fun l i wr => ∃ (k : Nat) (r : Int), k ≤ xs.length ∧ i = .int .i64 k ∧ l = .int .i64 r ∧ 0 ≤ r ∧ r ≤ left ∧ Below w.heap.size w wr) (fun _ i _ => xs.length - (intOf i).toNat)
    case atStart => exact ⟨0, _, Nat.zero_le _, rfl, rfl, by omega, by omega, Below.refl _ _⟩
    case round =>
      obtain ⟨k, r, hk, rfl, rfl, hr0, hr1, hb⟩ := hrel
      have HB : Hid (Below w.heap.size w wr) := hb
      clear hb
      by_cases hlt : k < xs.length
      · obtain ⟨b, off, cap', x, hv, hbl, hx, hxf, e0⟩ := (HS.out.below HB.out).at hlt
        cases hv
        unfold maxLen at hxf
        clear hx
        by_cases hr : r - x.size < 0
        · go_wp2
          go_ret
          exact ⟨⟨-1, rfl, by omega, by omega⟩, HB.out⟩
        · go_wp2
          go_roundw
          case rel => exact ⟨k + 1, r - x.size, by omega, by go_num, rfl, by omega, by omega, HB.out⟩
          case measure => simp [intOf]; omega
      · go_wp2
        go_ret
        exact ⟨⟨r, rfl, by omega, by omega⟩, HB.out⟩
theorem Tryz.info_text : (Tryz.prog.info? 9).map (fun i => (i.zero, i.size, i.bytes)) = some (some (.string ⟨#[]⟩), 1, 16) := by kernel_rfl
end Go.Proofs.YtkepmjebnkcbgaaGreatDoor
/-
  A change that a law is given: opened, its size, a copy of it, held against another one.
-/
namespace Go.Proofs.YtkepmjebnkcbgaaGreatDoor
open Go.ChangeShapes Go.WideShapes Go.ChangeAt Go.RowKit
set_option linter.unusedVariables false
theorem rowIs_new {w : World} (arr : Array Value) (t : TypeId) : (w.alloc (.cells arr t)).rowIs w.heap.size t arr.size (fun i => arr[i]?.getD .nilFunc) :=
  ⟨arr, Go.Deep.blk_alloc_new _ _, rfl, fun i hi => by simp [hi]⟩
theorem rowIs_other {w : World} {b n : Nat} {t : TypeId} {f : Nat → Value} (h : w.rowIs b t n f) {p : Addr} (hp : b ≠ p.block) (u : Value) : (w.setCell p u).rowIs b t n f :=
  h.of_block (Below.heap_setCell _ _ _ b hp)
theorem TextsAt.set {w : World} {b off n cap : Nat} {xs : List ByteArray} (h : TextsAt w (.slice (some ⟨b, off, none⟩) n cap) xs) {p : Addr} (hp : b ≠ p.block) (u : Value) : TextsAt (w.setCell p u) (.slice (some ⟨b, off, none⟩) n cap) xs := by
  obtain ⟨a, cap', hv, hc, hm, hf, hh⟩ := h
  refine ⟨a, cap', hv, hc, hm, hf, fun hn => ?_⟩
  obtain ⟨b', off', ha, h2, h3⟩ := hh hn
  cases ha
  cases hv
  refine ⟨b, off, rfl, by rw [Go.Deep.nblk_setCell]; exact h2, fun i x hx => ?_⟩
  rw [World.cell?_setCell_other _ _ _ _ (by intro e; first | exact hp (congrArg Addr.block e) | exact hp (congrArg Addr.block e).symm)]
  exact h3 i x hx
set_option maxHeartbeats 1000000 in
theorem eqDelta_same (w : World) (vg vc vl ug uc ul : Value) (af : Bool) (gs : List ByteArray) (es : List (ByteArray × ByteArray)) (xs : List Aff) (hg : TextsAt w vg gs) (he : EntsAt w vc es) (ha : AffsAt w vl xs) (hg' : TextsAt w ug gs) (he' : EntsAt w uc es) (ha' : AffsAt w ul xs) :
    Calls Tryz.prog 31 #[.agg #[vg, vc, .bool af, vl], .agg #[ug, uc, .bool af, ul]] w fun e w' => e = .returned (.bool true) ∧ Below w.heap.size w w' := by
  obtain ⟨a1, cap1, rfl, _, _⟩ := hg.form
  obtain ⟨a2, cap2, rfl, _, _⟩ := he.form
  obtain ⟨a3, cap3, rfl, _, _⟩ := ha.form
  obtain ⟨a4, cap4, rfl, _, _⟩ := hg'.form
  obtain ⟨a5, cap5, rfl, _, _⟩ := he'.form
  obtain ⟨a6, cap6, rfl, _, _⟩ := ha'.form
  have H1 : Hid (TextsAt w (.slice a1 gs.length cap1) gs) := hg
  have H2 : Hid (EntsAt w (.slice a2 es.length cap2) es) := he
  have H3 : Hid (AffsAt w (.slice a3 xs.length cap3) xs) := ha
  have H4 : Hid (TextsAt w (.slice a4 gs.length cap4) gs) := hg'
  have H5 : Hid (EntsAt w (.slice a5 es.length cap5) es) := he'
  have H6 : Hid (AffsAt w (.slice a6 xs.length cap6) xs) := ha'
  clear hg he ha hg' he' ha'
  go_enter Tryz.func31, Tryz.ntmps31
  go_wp2_with fail
  refine (eqStringS_same _ _ _ gs (H1.out.below ?b1) (H4.out.below ?b1)).mono ?_
  case b1 => exact ((Below.refl _ _).alloc (Nat.le_refl _) _).alloc (by simp) _
  rintro e w1 ⟨rfl, hb1⟩
  have HB1 : Hid (Below w.heap.size w w1) := Below.trans (((Below.refl _ _).alloc (Nat.le_refl _) _).alloc (by simp) _) (hb1.mono (by simp <;> omega))
  obtain ⟨hcl, hfz⟩ := bcell7 hb1
  have hz := hb1.size
  simp at hz
  clear hb1
  go_wp2_with fail
  refine (eqEntryS_same _ _ _ es (H2.out.below HB1.out) (H5.out.below HB1.out)).mono ?_
  rintro e w2 ⟨rfl, hb2⟩
  have HB2 : Hid (Below w.heap.size w w2) := HB1.out.trans (hb2.mono HB1.out.size)
  have d2 : ∀ i, w2.cell? ⟨w.heap.size, i, none⟩ = w1.cell? ⟨w.heap.size, i, none⟩ := fun i => hb2.cell (p := ⟨w.heap.size, i, none⟩) (show w.heap.size < _ by omega)
  have d3 : ∀ i, w2.cell? ⟨w.heap.size + 1, i, none⟩ = w1.cell? ⟨w.heap.size + 1, i, none⟩ := fun i => hb2.cell (p := ⟨w.heap.size + 1, i, none⟩) (show w.heap.size + 1 < _ by omega)
  clear hb2
  go_wp2_with fail
  refine (eqAffixS_same _ _ _ xs (H3.out.below HB2.out) (H6.out.below HB2.out)).mono ?_
  rintro e w3 ⟨rfl, hb3⟩
  have HB3 : Hid (Below w.heap.size w w3) := HB2.out.trans (hb3.mono HB2.out.size)
  clear hb3 hcl hfz d2 d3
  go_wp2
  go_ret
  exact ⟨rfl, HB3.out⟩
end Go.Proofs.YtkepmjebnkcbgaaGreatDoor
/-
  What goes in a change: impl.listOk, impl.goesOk.
-/
namespace Go.Proofs.YtkepmjebnkcbgaaGreatDoor
open Go.RowKit
set_option linter.unusedVariables false
/-- The text at a place is a word, and comes behind the one ahead. -/
def goAt (gs : List ByteArray) (i : Nat) : Bool :=
  match gs[i]? with
  | none => true
  | some g => wok g && (match i with | 0 => true | j + 1 => match gs[j]? with | none => true | some p => Op.bytesLess p.toList g.toList)
def goesAll (gs : List ByteArray) : Bool := (List.range gs.length).all (goAt gs)
def goesT (gs : List ByteArray) : Bool := decide (gs.length ≤ 24) && goesAll gs
theorem goesAll_bad {gs : List ByteArray} (i : Nat) (hi : i < gs.length) (h : goAt gs i = false) : goesAll gs = false := by
  cases e : goesAll gs with
  | false => rfl
  | true =>
    unfold goesAll at e
    rw [List.all_eq_true] at e
    rw [e i (List.mem_range.2 hi)] at h
    cases h
theorem goesAll_good {gs : List ByteArray} (h : ∀ i, i < gs.length → goAt gs i = true) : goesAll gs = true := by
  unfold goesAll
  rw [List.all_eq_true]
  exact fun i hi => h i (List.mem_range.1 hi)
theorem goAt_no {gs : List ByteArray} {i : Nat} {g : ByteArray} (hg : gs[i]? = some g) (h : wok g = false) : goAt gs i = false := by simp [goAt, hg, h]
theorem goAt_zero {gs : List ByteArray} {g : ByteArray} (hg : gs[0]? = some g) : goAt gs 0 = wok g := by simp [goAt, hg]
theorem goAt_succ {gs : List ByteArray} {j : Nat} {p g : ByteArray} (hp : gs[j]? = some p) (hg : gs[j + 1]? = some g) : goAt gs (j + 1) = (wok g && Op.bytesLess p.toList g.toList) := by simp [goAt, hp, hg]
set_option maxHeartbeats 1000000 in
theorem listOk_any (w : World) (v : Value) (gs : List ByteArray) (h : TextsAt w v gs) (hl : gs.length ≤ 300) :
    Calls Tryz.prog 143 #[v] w fun e w' => e = .returned (.bool (goesAll gs)) ∧ Below w.heap.size w w' := by
  obtain ⟨a, cap, rfl, hc, hm⟩ := h.form
  have HS : Hid (TextsAt w (.slice a gs.length cap) gs) := h
  clear h
  unfold maxLen at hm
  go_enter Tryz.func143, Tryz.ntmps143
  go_wp2
  go_loopw [10] (fun i wr => ∃ (k : Nat), k ≤ gs.length ∧ i = .int .i64 k ∧ (∀ j : Nat, j < k → goAt gs j = true) ∧ Below w.heap.size w wr) (fun i _ => gs.length - (intOf i).toNat)
  case atStart => exact ⟨0, Nat.zero_le _, rfl, fun j hj => absurd hj (by omega), Below.refl _ _⟩
  case round =>
    obtain ⟨k, hk, rfl, hall, hb⟩ := hrel
    have HB : Hid (Below w.heap.size w wr) := hb
    have HL : Hid (∀ j : Nat, j < k → goAt gs j = true) := hall
    clear hb hall
    by_cases hlt : k < gs.length
    · obtain ⟨b, off, cap', g, hv, hbl, hx, hxf, e0⟩ := (HS.out.below HB.out).at hlt
      cases hv
      have HX : Hid (gs[k]? = some g) := hx
      have HM : Hid (g.size ≤ maxLen) := hxf
      clear hx hxf
      cases hw : wok g with
      | false =>
        have HG : Hid (goesAll gs = false) := goesAll_bad k hlt (goAt_no HX.out hw)
        go_wp2_with fail
        refine (wordOk_any g _ HM.out).mono ?_
        rw [hw]
        rintro e w' ⟨rfl, rfl⟩
        go_wp2
        go_ret
        exact ⟨(congrArg (fun b => Ending.returned (.bool b)) HG.out).symm, HB.out⟩
      | true =>
        cases k with
        | zero =>
          rw [Nat.add_zero] at e0
          have HN : Hid (∀ j : Nat, j < 0 + 1 → goAt gs j = true) := fun j hj => by
            obtain rfl : j = 0 := by omega
            rw [goAt_zero HX.out, hw]
          go_wp2_with fail
          refine (wordOk_any g _ HM.out).mono ?_
          rw [hw]
          rintro e w' ⟨rfl, rfl⟩
          go_wp2
          go_roundw
          case rel => exact ⟨0 + 1, by omega, by go_num, HN.out, HB.out⟩
          case measure => simp [intOf]; omega
        | succ m =>
          obtain ⟨b', off', cap2, p, hv', _, hp, _, e1⟩ := (HS.out.below HB.out).at (k := m) (by omega)
          cases hv'
          have HP : Hid (gs[m]? = some p) := hp
          clear hp
          cases hlx : Op.bytesLess p.toList g.toList with
          | false =>
            have HG : Hid (goesAll gs = false) := goesAll_bad (m + 1) hlt (by rw [goAt_succ HP.out HX.out, hlx, Bool.and_false])
            go_wp2_with fail
            refine (wordOk_any g _ HM.out).mono ?_
            rw [hw]
            rintro e w' ⟨rfl, rfl⟩
            go_wp2
            go_ret
            exact ⟨(congrArg (fun b => Ending.returned (.bool b)) HG.out).symm, HB.out⟩
          | true =>
            have HN : Hid (∀ j : Nat, j < m + 1 + 1 → goAt gs j = true) := fun j hj => by
              by_cases e : j = m + 1
              · rw [e, goAt_succ HP.out HX.out, hlx, hw]; rfl
              · exact HL.out j (by omega)
            go_wp2_with fail
            refine (wordOk_any g _ HM.out).mono ?_
            rw [hw]
            rintro e w' ⟨rfl, rfl⟩
            go_wp2
            go_roundw
            case rel => exact ⟨m + 1 + 1, by omega, by go_num, HN.out, HB.out⟩
            case measure => simp [intOf]; omega
    · have HG : Hid (goesAll gs = true) := goesAll_good fun i hi => HL.out i (by omega)
      go_wp2
      go_ret
      exact ⟨(congrArg (fun b => Ending.returned (.bool b)) HG.out).symm, HB.out⟩
set_option maxHeartbeats 1000000 in
theorem goesOk_any (w : World) (v : Value) (gs : List ByteArray) (h : TextsAt w v gs) :
    Calls Tryz.prog 122 #[v] w fun e w' => e = .returned (.bool (goesT gs)) ∧ Below w.heap.size w w' := by
  obtain ⟨a, cap, rfl, hc, hm⟩ := h.form
  have HS : Hid (TextsAt w (.slice a gs.length cap) gs) := h
  clear h
  unfold maxLen at hm
  by_cases hl : gs.length ≤ 24
  · have HG : Hid (goesT gs = goesAll gs) := by show _ = _; simp [goesT, hl]
    go_enter Tryz.func122, Tryz.ntmps122
    go_wp2_with fail
    refine (listOk_any _ _ gs HS.out (by omega)).mono ?_
    rintro e w' ⟨rfl, hb⟩
    have HB : Hid (Below w.heap.size w w') := hb
    clear hb
    go_wp2
    go_ret
    exact ⟨(congrArg (fun b => Ending.returned (.bool b)) HG.out).symm, HB.out⟩
  · have HG : Hid (goesT gs = false) := by show _ = _; simp [goesT, hl]
    go_enter Tryz.func122, Tryz.ntmps122
    go_wp2
    go_ret
    exact ⟨(congrArg (fun b => Ending.returned (.bool b)) HG.out).symm, Below.refl _ _⟩
end Go.Proofs.YtkepmjebnkcbgaaGreatDoor
