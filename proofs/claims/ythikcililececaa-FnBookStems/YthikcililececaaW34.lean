/-
  Flags in order: impl.flagsOk.
-/
import Derived.Test.YthikcililececaaW2
import Derived.Deep.QuietTactic
import Derived.BigQuiet
namespace Go.Proofs.Ythikcililececaa
open Go.RowKit
set_option linter.unusedVariables false
/-- A byte of a text, as a number. -/
def bt (s : ByteArray) (i : Nat) : Nat := (s.data.toList.getD i 0).toNat
theorem bt_get (s : ByteArray) (j : Nat) (h : j < s.size) : bt s j = s[j].toNat := by
  unfold bt
  rw [List.getD_eq_getElem?_getD, List.getElem?_eq_getElem (by simpa using h)]; rfl
/-- The first k bytes of a text rise. -/
def ascT (s : ByteArray) (k : Nat) : Bool := (List.range k).all fun i => decide (i = 0) || decide (bt s (i - 1) < bt s i)
theorem ascT_succ (s : ByteArray) (j : Nat) : ascT s (j + 2) = (ascT s (j + 1) && decide (bt s j < bt s (j + 1))) := by
  unfold ascT
  rw [List.range_succ (n := j + 1)]
  simp [List.all_append]
theorem ascT_bad (s : ByteArray) (j k : Nat) (h : j + 1 < k) (hb : ¬ bt s j < bt s (j + 1)) : ascT s k = false := by
  unfold ascT
  rw [List.all_eq_false]
  exact ⟨j + 1, by simpa using h, by simpa using hb⟩
/-- Flags: at most four capital letters that rise. -/
def flagsT (s : ByteArray) : Bool := decide ((s.size : Int) ≤ 4) && (inr 65 90 s.data.toList && ascT s s.size)
theorem ascT_small (s : ByteArray) (k : Nat) (h : k ≤ 1) : ascT s k = true := by
  unfold ascT
  have : k = 0 ∨ k = 1 := by omega
  rcases this with rfl | rfl <;> simp
set_option maxHeartbeats 1000000 in
theorem flagsOk_any (s : ByteArray) (w : World) (hs : s.size ≤ maxLen) :
    Calls Try.prog 49 #[.string s] w fun e w' => e = .returned (.bool (flagsT s)) ∧ ∃ n, w' = w.drewN n := by
  have HN : Hid (s.size ≤ maxLen) := hs
  unfold maxLen at hs
  by_cases h4 : (s.size : Int) > 4
  · have HF : Hid (flagsT s = false) := show flagsT s = false by unfold flagsT; simp; omega
    go_enter Try.func49, Try.ntmps49
    go_wp2_with fail
    go_ret
    rw [HF.out]
    exact ⟨rfl, 0, rfl⟩
  cases hr : inr 65 90 s.data.toList with
  | false =>
    have HF : Hid (flagsT s = false) := show flagsT s = false by unfold flagsT; simp [hr]
    go_enter Try.func49, Try.ntmps49
    go_wp2_with (go_at_call 37; refine (between_any _ _ _ _ HN.out).mono ?_; rintro e w' ⟨rfl, rfl⟩; rw [hr])
    go_ret
    rw [HF.out]
    exact ⟨rfl, 0, rfl⟩
  | true =>
    have HF : Hid (flagsT s = ascT s s.size) := show flagsT s = ascT s s.size by unfold flagsT; simp [hr]; omega
    go_enter Try.func49, Try.ntmps49
    go_wp2_with (go_at_call 37; refine (between_any _ _ _ _ HN.out).mono ?_; rintro e w' ⟨rfl, rfl⟩; rw [hr])
    go_loopw [3] (fun i wr => ∃ j n : Nat, i = .int .i64 ((j : Int) + 1) ∧ (j + 1 ≤ s.size ∨ j = 0) ∧ ascT s (j + 1) = true ∧ wr = w'.drewN n) (fun i _ => s.size - (intOf i).toNat)
    case atStart => exact ⟨0, 0, rfl, .inr rfl, ascT_small s 1 (by omega), rfl⟩
    case round =>
      obtain ⟨j, n, rfl, hj, hr2, rfl⟩ := hrel
      have HA : Hid (ascT s (j + 1) = true) := hr2
      clear hr2
      by_cases hlt : (j : Int) + 1 < (s.size : Int)
      · obtain ⟨k, hk⟩ : ∃ k : Nat, k = j + 1 := ⟨_, rfl⟩
        have hkk : (j : Int) + 1 = (k : Int) := by omega
        have hlt' : k < s.size := by omega
        have hlt0 : j < s.size := by omega
        have hi0 : (j : Int) < (s.size : Int) := by omega
        have hi1 : (k : Int) < (s.size : Int) := by omega
        have r1 : IntKind.i64.wrap ((k : Int) - 1) = (j : Int) := by rw [IntWalk.i64_in _ (by omega)]; omega
        have HB0 := bt_get s j hlt0
        have HB1 := bt_get s k hlt'
        rw [hkk] at hlt ⊢
        by_cases hge : s[k].toNat ≤ s[j].toNat
        ·
          have HX : Hid (ascT s s.size = false) := ascT_bad s j s.size (by omega) (by rw [← hk, HB0, HB1]; omega)
          clear HB0 HB1 hk hkk
          go_wp2_with fail
          go_quiet (fail)
          go_wp2_with fail
          go_ret
          rw [HF.out, HX.out]
          exact ⟨rfl, _, World.drewN_drewN _ _ _⟩
        ·
          have HX : Hid (ascT s (k + 1) = true) := show ascT s (k + 1) = true by
            have hk2 : ascT s (j + 2) = (ascT s (j + 1) && decide (bt s j < bt s (j + 1))) := ascT_succ s j
            rw [show k + 1 = j + 2 by omega, hk2, HA.out, ← hk, HB0, HB1]; simp; omega
          clear HB0 HB1 hk hkk
          go_wp2_with fail
          go_quiet (fail)
          go_wp2_with fail
          go_roundw
          case rel => exact ⟨k, _, by go_num, .inl (by omega), HX.out, rfl⟩
          case measure => simp [intOf]; omega
      · have HE : Hid (ascT s s.size = true) := show ascT s s.size = true by
          rcases Nat.lt_or_ge 1 s.size with h1 | h1
          · have : j + 1 = s.size := by omega
            rw [← this]; exact HA.out
          · exact ascT_small s _ h1
        go_wp2_with fail
        go_ret
        rw [HF.out, HE.out]
        exact ⟨rfl, _, rfl⟩
end Go.Proofs.Ythikcililececaa
