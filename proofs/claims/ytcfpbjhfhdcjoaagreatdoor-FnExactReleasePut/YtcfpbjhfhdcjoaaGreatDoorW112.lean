/-
  What goes in a change: impl.listOk, impl.goesOk.
-/
import Derived.Test.YtcfpbjhfhdcjoaaGreatDoorW111
import Derived.Test.YtcfpbjhfhdcjoaaGreatDoorW2
namespace Go.Proofs.YtcfpbjhfhdcjoaaGreatDoor
open Go.RowKit
set_option linter.unusedVariables false
/-- The text at a place is a word, and comes behind the one ahead. -/
def goAt (gs : List ByteArray) (i : Nat) : Bool :=
  match gs[i]? with
  | none => true
  | some g => wok g && (match i with | 0 => true | j + 1 => match gs[j]? with | none => true | some p => Op.bytesLess p.toList g.toList)
def goesAll (gs : List ByteArray) : Bool := (List.range gs.length).all (goAt gs)
def goesT (gs : List ByteArray) : Bool := decide (gs.length ≤ 24) && goesAll gs
theorem goesAll_bad {gs : List ByteArray} (i : Nat) (hi : i < gs.length) (h : goAt gs i = false) : goesAll gs = false := by
  cases e : goesAll gs with
  | false => rfl
  | true =>
    unfold goesAll at e
    rw [List.all_eq_true] at e
    rw [e i (List.mem_range.2 hi)] at h
    cases h
theorem goesAll_good {gs : List ByteArray} (h : ∀ i, i < gs.length → goAt gs i = true) : goesAll gs = true := by
  unfold goesAll
  rw [List.all_eq_true]
  exact fun i hi => h i (List.mem_range.1 hi)
theorem goAt_no {gs : List ByteArray} {i : Nat} {g : ByteArray} (hg : gs[i]? = some g) (h : wok g = false) : goAt gs i = false := by simp [goAt, hg, h]
theorem goAt_zero {gs : List ByteArray} {g : ByteArray} (hg : gs[0]? = some g) : goAt gs 0 = wok g := by simp [goAt, hg]
theorem goAt_succ {gs : List ByteArray} {j : Nat} {p g : ByteArray} (hp : gs[j]? = some p) (hg : gs[j + 1]? = some g) : goAt gs (j + 1) = (wok g && Op.bytesLess p.toList g.toList) := by simp [goAt, hp, hg]
set_option maxHeartbeats 1000000 in
theorem listOk_any (w : World) (v : Value) (gs : List ByteArray) (h : TextsAt w v gs) (hl : gs.length ≤ 300) :
    Calls Tryz.prog 61 #[v] w fun e w' => e = .returned (.bool (goesAll gs)) ∧ Below w.heap.size w w' := by
  obtain ⟨a, cap, rfl, hc, hm⟩ := h.form
  have HS : Hid (TextsAt w (.slice a gs.length cap) gs) := h
  clear h
  unfold maxLen at hm
  go_enter Tryz.func61, Tryz.ntmps61
  go_wp2
  go_loopw [10] (fun i wr => ∃ (k : Nat), k ≤ gs.length ∧ i = .int .i64 k ∧ (∀ j : Nat, j < k → goAt gs j = true) ∧ Below w.heap.size w wr) (fun i _ => gs.length - (intOf i).toNat)
  case atStart => exact ⟨0, Nat.zero_le _, rfl, fun j hj => absurd hj (by omega), Below.refl _ _⟩
  case round =>
    obtain ⟨k, hk, rfl, hall, hb⟩ := hrel
    have HB : Hid (Below w.heap.size w wr) := hb
    have HL : Hid (∀ j : Nat, j < k → goAt gs j = true) := hall
    clear hb hall
    by_cases hlt : k < gs.length
    · obtain ⟨b, off, cap', g, hv, hbl, hx, hxf, e0⟩ := (HS.out.below HB.out).at hlt
      cases hv
      have HX : Hid (gs[k]? = some g) := hx
      have HM : Hid (g.size ≤ maxLen) := hxf
      clear hx hxf
      cases hw : wok g with
      | false =>
        have HG : Hid (goesAll gs = false) := goesAll_bad k hlt (goAt_no HX.out hw)
        go_wp2_with fail
        refine (wordOk_any g _ HM.out).mono ?_
        rw [hw]
        rintro e w' ⟨rfl, rfl⟩
        go_wp2
        go_ret
        exact ⟨(congrArg (fun b => Ending.returned (.bool b)) HG.out).symm, HB.out⟩
      | true =>
        cases k with
        | zero =>
          rw [Nat.add_zero] at e0
          have HN : Hid (∀ j : Nat, j < 0 + 1 → goAt gs j = true) := fun j hj => by
            obtain rfl : j = 0 := by omega
            rw [goAt_zero HX.out, hw]
          go_wp2_with fail
          refine (wordOk_any g _ HM.out).mono ?_
          rw [hw]
          rintro e w' ⟨rfl, rfl⟩
          go_wp2
          go_roundw
          case rel => exact ⟨0 + 1, by omega, by go_num, HN.out, HB.out⟩
          case measure => simp [intOf]; omega
        | succ m =>
          obtain ⟨b', off', cap2, p, hv', _, hp, _, e1⟩ := (HS.out.below HB.out).at (k := m) (by omega)
          cases hv'
          have HP : Hid (gs[m]? = some p) := hp
          clear hp
          cases hlx : Op.bytesLess p.toList g.toList with
          | false =>
            have HG : Hid (goesAll gs = false) := goesAll_bad (m + 1) hlt (by rw [goAt_succ HP.out HX.out, hlx, Bool.and_false])
            go_wp2_with fail
            refine (wordOk_any g _ HM.out).mono ?_
            rw [hw]
            rintro e w' ⟨rfl, rfl⟩
            go_wp2
            go_ret
            exact ⟨(congrArg (fun b => Ending.returned (.bool b)) HG.out).symm, HB.out⟩
          | true =>
            have HN : Hid (∀ j : Nat, j < m + 1 + 1 → goAt gs j = true) := fun j hj => by
              by_cases e : j = m + 1
              · rw [e, goAt_succ HP.out HX.out, hlx, hw]; rfl
              · exact HL.out j (by omega)
            go_wp2_with fail
            refine (wordOk_any g _ HM.out).mono ?_
            rw [hw]
            rintro e w' ⟨rfl, rfl⟩
            go_wp2
            go_roundw
            case rel => exact ⟨m + 1 + 1, by omega, by go_num, HN.out, HB.out⟩
            case measure => simp [intOf]; omega
    · have HG : Hid (goesAll gs = true) := goesAll_good fun i hi => HL.out i (by omega)
      go_wp2
      go_ret
      exact ⟨(congrArg (fun b => Ending.returned (.bool b)) HG.out).symm, HB.out⟩
set_option maxHeartbeats 1000000 in
theorem goesOk_any (w : World) (v : Value) (gs : List ByteArray) (h : TextsAt w v gs) :
    Calls Tryz.prog 45 #[v] w fun e w' => e = .returned (.bool (goesT gs)) ∧ Below w.heap.size w w' := by
  obtain ⟨a, cap, rfl, hc, hm⟩ := h.form
  have HS : Hid (TextsAt w (.slice a gs.length cap) gs) := h
  clear h
  unfold maxLen at hm
  by_cases hl : gs.length ≤ 24
  · have HG : Hid (goesT gs = goesAll gs) := by show _ = _; simp [goesT, hl]
    go_enter Tryz.func45, Tryz.ntmps45
    go_wp2_with fail
    refine (listOk_any _ _ gs HS.out (by omega)).mono ?_
    rintro e w' ⟨rfl, hb⟩
    have HB : Hid (Below w.heap.size w w') := hb
    clear hb
    go_wp2
    go_ret
    exact ⟨(congrArg (fun b => Ending.returned (.bool b)) HG.out).symm, HB.out⟩
  · have HG : Hid (goesT gs = false) := by show _ = _; simp [goesT, hl]
    go_enter Tryz.func45, Tryz.ntmps45
    go_wp2
    go_ret
    exact ⟨(congrArg (fun b => Ending.returned (.bool b)) HG.out).symm, Below.refl _ _⟩
end Go.Proofs.YtcfpbjhfhdcjoaaGreatDoor
