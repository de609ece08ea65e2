/-
  What small functions on texts tell: whether one begins or ends with another one, is a flag, is a part of an affix.
-/
import Derived.Test.YthedglgljehmgaaGreatDoorProg
import Derived.Test.YthedglgljehmgaaGreatDoorGW2
import Derived.Test.YthedglgljehmgaaGreatDoorGM40
import Derived.Deep.QuietTactic
import Derived.BigQuiet
import Derived.WalkKit
import Derived.WalkSpells
import Derived.WalkLawsBesides
namespace Go.Proofs.YthedglgljehmgaaGreatDoor
open Go.RowKit
set_option linter.unusedVariables false
/-- A text begins, or ends, with another one. -/
def begT (s p : ByteArray) : Bool := decide (p.size ≤ s.size) && ((s.extract 0 p.size).toList == p.toList)
def endT (s p : ByteArray) : Bool := decide (p.size ≤ s.size) && ((s.extract (s.size - p.size) s.size).toList == p.toList)
/-- A flag: a capital letter. -/
def flagT (s : ByteArray) : Bool := decide ((s.size : Int) = 1) && inr 65 90 s.data.toList
/-- Letters, at most four. -/
def partT (s : ByteArray) : Bool := inr 97 122 s.data.toList && decide ((s.size : Int) ≤ 4)
set_option maxHeartbeats 400000 in
theorem l2Begins_any (s p : ByteArray) (w : World) (hs : s.size ≤ maxLen) (hp : p.size ≤ maxLen) :
    Calls Tryz.prog 101 #[.string s, .string p] w fun e w' => e = .returned (.bool (begT s p)) ∧ w' = w := by
  unfold maxLen at hs hp
  by_cases h : (p.size : Int) ≤ (s.size : Int)
  · have HB : Hid (begT s p = ((s.extract 0 p.size).toList == p.toList)) := by
      have : begT s p = ((s.extract 0 p.size).toList == p.toList) := by unfold begT; simp; omega
      exact this
    go_enter Tryz.func101, Tryz.ntmps101
    go_wp2
    go_ret
    rw [HB.out]
    exact ⟨rfl, rfl⟩
  · have HB : Hid (begT s p = false) := by
      have : begT s p = false := by unfold begT; simp; omega
      exact this
    go_enter Tryz.func101, Tryz.ntmps101
    go_wp2
    go_ret
    rw [HB.out]
    exact ⟨rfl, rfl⟩
set_option maxHeartbeats 400000 in
theorem l2Ends_any (s p : ByteArray) (w : World) (hs : s.size ≤ maxLen) (hp : p.size ≤ maxLen) :
    Calls Tryz.prog 102 #[.string s, .string p] w fun e w' => e = .returned (.bool (endT s p)) ∧ w' = w := by
  unfold maxLen at hs hp
  by_cases h : (p.size : Int) ≤ (s.size : Int)
  · have HB : Hid (endT s p = ((s.extract (s.size - p.size) s.size).toList == p.toList)) := by
      have : endT s p = ((s.extract (s.size - p.size) s.size).toList == p.toList) := by unfold endT; simp; omega
      exact this
    go_enter Tryz.func102, Tryz.ntmps102
    go_wp2
    go_ret
    rw [HB.out]
    exact ⟨rfl, rfl⟩
  · have HB : Hid (endT s p = false) := by
      have : endT s p = false := by unfold endT; simp; omega
      exact this
    go_enter Tryz.func102, Tryz.ntmps102
    go_wp2
    go_ret
    rw [HB.out]
    exact ⟨rfl, rfl⟩
set_option maxHeartbeats 400000 in
theorem slHasPrefix_any (s p : ByteArray) (w : World) (hs : s.size ≤ maxLen) (hp : p.size ≤ maxLen) :
    Calls Tryz.prog 159 #[.string s, .string p] w fun e w' => e = .returned (.bool (begT s p)) ∧ w' = w := by
  unfold maxLen at hs hp
  by_cases h : (p.size : Int) ≤ (s.size : Int)
  · have HB : Hid (begT s p = ((s.extract 0 p.size).toList == p.toList)) := by
      have : begT s p = ((s.extract 0 p.size).toList == p.toList) := by unfold begT; simp; omega
      exact this
    go_enter Tryz.func159, Tryz.ntmps159
    go_wp2
    go_ret
    rw [HB.out]
    exact ⟨rfl, rfl⟩
  · have HB : Hid (begT s p = false) := by
      have : begT s p = false := by unfold begT; simp; omega
      exact this
    go_enter Tryz.func159, Tryz.ntmps159
    go_wp2
    go_ret
    rw [HB.out]
    exact ⟨rfl, rfl⟩
set_option maxHeartbeats 400000 in
theorem slHasSuffix_any (s p : ByteArray) (w : World) (hs : s.size ≤ maxLen) (hp : p.size ≤ maxLen) :
    Calls Tryz.prog 155 #[.string s, .string p] w fun e w' => e = .returned (.bool (endT s p)) ∧ w' = w := by
  unfold maxLen at hs hp
  by_cases h : (p.size : Int) ≤ (s.size : Int)
  · have HB : Hid (endT s p = ((s.extract (s.size - p.size) s.size).toList == p.toList)) := by
      have : endT s p = ((s.extract (s.size - p.size) s.size).toList == p.toList) := by unfold endT; simp; omega
      exact this
    go_enter Tryz.func155, Tryz.ntmps155
    go_wp2
    go_ret
    rw [HB.out]
    exact ⟨rfl, rfl⟩
  · have HB : Hid (endT s p = false) := by
      have : endT s p = false := by unfold endT; simp; omega
      exact this
    go_enter Tryz.func155, Tryz.ntmps155
    go_wp2
    go_ret
    rw [HB.out]
    exact ⟨rfl, rfl⟩
set_option maxHeartbeats 400000 in
theorem hasPrefix_any (s p : ByteArray) (w : World) (hs : s.size ≤ maxLen) (hp : p.size ≤ maxLen) :
    Calls Tryz.prog 158 #[.string s, .string p] w fun e w' => e = .returned (.bool (begT s p)) ∧ w' = w := by
  go_enter Tryz.func158, Tryz.ntmps158
  go_wp2_with (go_at_call 159; refine (slHasPrefix_any _ _ _ hs hp).mono ?_; rintro e w' ⟨rfl, rfl⟩)
  go_ret
  exact ⟨rfl, rfl⟩
set_option maxHeartbeats 400000 in
theorem hasSuffix_any (s p : ByteArray) (w : World) (hs : s.size ≤ maxLen) (hp : p.size ≤ maxLen) :
    Calls Tryz.prog 154 #[.string s, .string p] w fun e w' => e = .returned (.bool (endT s p)) ∧ w' = w := by
  go_enter Tryz.func154, Tryz.ntmps154
  go_wp2_with (go_at_call 155; refine (slHasSuffix_any _ _ _ hs hp).mono ?_; rintro e w' ⟨rfl, rfl⟩)
  go_ret
  exact ⟨rfl, rfl⟩
set_option maxHeartbeats 400000 in
theorem l2Flag_any (s : ByteArray) (w : World) (hs : s.size ≤ maxLen) :
    Calls Tryz.prog 83 #[.string s] w fun e w' => e = .returned (.bool (flagT s)) ∧ w' = w := by
  unfold maxLen at hs
  by_cases h : s.size = 1
  · have h0 : ((s.size : Int) == 1) = true := by rw [beq_iff_eq]; omega
    have l0 : (0 : Int) < (s.size : Int) := by omega
    have l0' : 0 < s.size := by omega
    have HB : Hid (flagT s = (decide (65 ≤ ((s[0]'l0').toNat : Int)) && decide (((s[0]'l0').toNat : Int) ≤ 90))) := by
      have : flagT s = (decide (65 ≤ ((s[0]'l0').toNat : Int)) && decide (((s[0]'l0').toNat : Int) ≤ 90)) := by
        unfold flagT
        have e := inr_take_succ 65 90 s 0 l0'
        rw [inr_all 65 90 s 1 (by omega)] at e
        rw [e]
        simp [inr]; omega
      exact this
    clear h
    go_enter Tryz.func83, Tryz.ntmps83
    go_wp2
    · have h65 : (65 : Int) ≤ ((s[0]'l0').toNat : Int) := by assumption
      go_ret
      rw [HB.out]
      exact ⟨ret_bool (by simp; omega), rfl⟩
    · have h65 : ((s[0]'l0').toNat : Int) < 65 := by assumption
      go_ret
      rw [HB.out]
      exact ⟨ret_bool (by simp; omega), rfl⟩
  · have h0 : ((s.size : Int) == 1) = false := by rw [beq_eq_false_iff_ne]; omega
    have HB : Hid (flagT s = false) := by
      have : flagT s = false := by unfold flagT; simp; omega
      exact this
    clear h
    go_enter Tryz.func83, Tryz.ntmps83
    go_wp2
    go_ret
    rw [HB.out]
    exact ⟨rfl, rfl⟩
set_option maxHeartbeats 400000 in
theorem partOk_any (s : ByteArray) (w : World) (hs : s.size ≤ maxLen) :
    Calls Tryz.prog 87 #[.string s] w fun e w' => e = .returned (.bool (partT s)) ∧ w' = w := by
  by_cases h : (s.size : Int) ≤ 4
  all_goals
    go_enter Tryz.func87, Tryz.ntmps87
    go_wp2_with (go_at_call 50; refine (between_any _ _ _ _ hs).mono ?_; rintro e w' ⟨rfl, rfl⟩)
    go_ret
    exact ⟨ret_bool (by simp [partT, h]), rfl⟩
end Go.Proofs.YthedglgljehmgaaGreatDoor
/-
  Flags in order: impl.flagsOk.
-/
namespace Go.Proofs.YthedglgljehmgaaGreatDoor
open Go.RowKit
set_option linter.unusedVariables false
/-- A byte of a text, as a number. -/
def bt (s : ByteArray) (i : Nat) : Nat := (s.data.toList.getD i 0).toNat
theorem bt_get (s : ByteArray) (j : Nat) (h : j < s.size) : bt s j = s[j].toNat := by
  unfold bt
  rw [List.getD_eq_getElem?_getD, List.getElem?_eq_getElem (by simpa using h)]; rfl
/-- The first k bytes of a text rise. -/
def ascT (s : ByteArray) (k : Nat) : Bool := (List.range k).all fun i => decide (i = 0) || decide (bt s (i - 1) < bt s i)
theorem ascT_succ (s : ByteArray) (j : Nat) : ascT s (j + 2) = (ascT s (j + 1) && decide (bt s j < bt s (j + 1))) := by
  unfold ascT
  rw [List.range_succ (n := j + 1)]
  simp [List.all_append]
theorem ascT_bad (s : ByteArray) (j k : Nat) (h : j + 1 < k) (hb : ¬ bt s j < bt s (j + 1)) : ascT s k = false := by
  unfold ascT
  rw [List.all_eq_false]
  exact ⟨j + 1, by simpa using h, by simpa using hb⟩
/-- Flags: at most four capital letters that rise. -/
def flagsT (s : ByteArray) : Bool := decide ((s.size : Int) ≤ 4) && (inr 65 90 s.data.toList && ascT s s.size)
theorem ascT_small (s : ByteArray) (k : Nat) (h : k ≤ 1) : ascT s k = true := by
  unfold ascT
  have : k = 0 ∨ k = 1 := by omega
  rcases this with rfl | rfl <;> simp
set_option maxHeartbeats 1000000 in
theorem flagsOk_any (s : ByteArray) (w : World) (hs : s.size ≤ maxLen) :
    Calls Tryz.prog 91 #[.string s] w fun e w' => e = .returned (.bool (flagsT s)) ∧ ∃ n, w' = w.drewN n := by
  have HN : Hid (s.size ≤ maxLen) := hs
  unfold maxLen at hs
  by_cases h4 : (s.size : Int) > 4
  · have HF : Hid (flagsT s = false) := show flagsT s = false by unfold flagsT; simp; omega
    go_enter Tryz.func91, Tryz.ntmps91
    go_wp2_with fail
    go_ret
    rw [HF.out]
    exact ⟨rfl, 0, rfl⟩
  cases hr : inr 65 90 s.data.toList with
  | false =>
    have HF : Hid (flagsT s = false) := show flagsT s = false by unfold flagsT; simp [hr]
    go_enter Tryz.func91, Tryz.ntmps91
    go_wp2_with (go_at_call 50; refine (between_any _ _ _ _ HN.out).mono ?_; rintro e w' ⟨rfl, rfl⟩; rw [hr])
    go_ret
    rw [HF.out]
    exact ⟨rfl, 0, rfl⟩
  | true =>
    have HF : Hid (flagsT s = ascT s s.size) := show flagsT s = ascT s s.size by unfold flagsT; simp [hr]; omega
    go_enter Tryz.func91, Tryz.ntmps91
    go_wp2_with (go_at_call 50; refine (between_any _ _ _ _ HN.out).mono ?_; rintro e w' ⟨rfl, rfl⟩; rw [hr])
    go_loopw [3] (fun i wr => ∃ j n : Nat, i = .int .i64 ((j : Int) + 1) ∧ (j + 1 ≤ s.size ∨ j = 0) ∧ ascT s (j + 1) = true ∧ wr = w'.drewN n) (fun i _ => s.size - (intOf i).toNat)
    case atStart => exact ⟨0, 0, rfl, .inr rfl, ascT_small s 1 (by omega), rfl⟩
    case round =>
      obtain ⟨j, n, rfl, hj, hr2, rfl⟩ := hrel
      have HA : Hid (ascT s (j + 1) = true) := hr2
      clear hr2
      by_cases hlt : (j : Int) + 1 < (s.size : Int)
      · obtain ⟨k, hk⟩ : ∃ k : Nat, k = j + 1 := ⟨_, rfl⟩
        have hkk : (j : Int) + 1 = (k : Int) := by omega
        have hlt' : k < s.size := by omega
        have hlt0 : j < s.size := by omega
        have hi0 : (j : Int) < (s.size : Int) := by omega
        have hi1 : (k : Int) < (s.size : Int) := by omega
        have r1 : IntKind.i64.wrap ((k : Int) - 1) = (j : Int) := by rw [IntWalk.i64_in _ (by omega)]; omega
        have HB0 := bt_get s j hlt0
        have HB1 := bt_get s k hlt'
        rw [hkk] at hlt ⊢
        by_cases hge : s[k].toNat ≤ s[j].toNat
        ·
          have HX : Hid (ascT s s.size = false) := ascT_bad s j s.size (by omega) (by rw [← hk, HB0, HB1]; omega)
          clear HB0 HB1 hk hkk
          go_wp2_with fail
          go_quiet (fail)
          go_wp2_with fail
          go_ret
          rw [HF.out, HX.out]
          exact ⟨rfl, _, World.drewN_drewN _ _ _⟩
        ·
          have HX : Hid (ascT s (k + 1) = true) := show ascT s (k + 1) = true by
            have hk2 : ascT s (j + 2) = (ascT s (j + 1) && decide (bt s j < bt s (j + 1))) := ascT_succ s j
            rw [show k + 1 = j + 2 by omega, hk2, HA.out, ← hk, HB0, HB1]; simp; omega
          clear HB0 HB1 hk hkk
          go_wp2_with fail
          go_quiet (fail)
          go_wp2_with fail
          go_roundw
          case rel => exact ⟨k, _, by go_num, .inl (by omega), HX.out, rfl⟩
          case measure => simp [intOf]; omega
      · have HE : Hid (ascT s s.size = true) := show ascT s s.size = true by
          rcases Nat.lt_or_ge 1 s.size with h1 | h1
          · have : j + 1 = s.size := by omega
            rw [← this]; exact HA.out
          · exact ascT_small s _ h1
        go_wp2_with fail
        go_ret
        rw [HF.out, HE.out]
        exact ⟨rfl, _, rfl⟩
end Go.Proofs.YthedglgljehmgaaGreatDoor
/-
  Entries: impl.entryOk and spec.l2Entry.
-/
namespace Go.Proofs.YthedglgljehmgaaGreatDoor
open Go.RowKit
set_option linter.unusedVariables false
/-- An entry is ok. -/
def entT (st fl : ByteArray) : Bool := wok st && flagsT fl
theorem extract_one (s : ByteArray) (j : Nat) (h : j < s.size) : (s.extract j (j + 1)).data.toList = [s[j]] ∧ (s.extract j (j + 1)).size = 1 := by
  have h1 : (s.extract j (j + 1)).size = 1 := by rw [ByteArray.size_extract]; omega
  refine ⟨?_, h1⟩
  apply List.ext_getElem
  · have : (s.extract j (j + 1)).data.toList.length = (s.extract j (j + 1)).size := rfl
    rw [this, h1]; rfl
  · intro i hi1 hi2
    have hi : i = 0 := by simpa using hi2
    subst hi
    simp
    rfl
theorem flagT_one (s : ByteArray) (j : Nat) (h : j < s.size) : flagT (s.extract j (j + 1)) = (decide ((65 : Int) ≤ s[j].toNat) && decide ((s[j].toNat : Int) ≤ 90)) := by
  unfold flagT inr
  rw [(extract_one s j h).1, (extract_one s j h).2]
  simp
set_option maxHeartbeats 1000000 in
theorem implEntryOk_any (st fl : ByteArray) (w : World) (h1 : st.size ≤ maxLen) (h2 : fl.size ≤ maxLen) :
    Calls Tryz.prog 72 #[.agg #[.string st, .string fl]] w fun e w' => e = .returned (.bool (entT st fl)) ∧ Below w.heap.size w w' := by
  cases hw : wok st with
  | false =>
    have HE : Hid (entT st fl = false) := show entT st fl = false by simp [entT, hw]
    go_enter Tryz.func72, Tryz.ntmps72
    go_wp2_with (go_at_call 90; refine (wordOk_any _ _ h1).mono ?_; rintro e w' ⟨rfl, rfl⟩; rw [hw])
    go_ret
    rw [HE.out]
    exact ⟨rfl, (Below.refl _ _).alloc (Nat.le_refl _) _⟩
  | true =>
    have HE : Hid (entT st fl = flagsT fl) := show entT st fl = flagsT fl by simp [entT, hw]
    go_enter Tryz.func72, Tryz.ntmps72
    go_wp2_with (first | (go_at_call 90; refine (wordOk_any _ _ h1).mono ?_; rintro e w' ⟨rfl, rfl⟩; rw [hw]) | (go_at_call 91; refine (flagsOk_any _ _ h2).mono ?_; rintro e w' ⟨rfl, n, rfl⟩))
    go_ret
    rw [HE.out]
    exact ⟨rfl, below_drewN ((Below.refl _ _).alloc (Nat.le_refl _) _) _⟩
theorem flagsT_bad (s : ByteArray) (h : ¬ (s.size : Int) ≤ 4 ∨ inr 65 90 s.data.toList = false ∨ ascT s s.size = false) : flagsT s = false := by
  unfold flagsT
  rcases h with h | h | h <;> simp [h]
set_option maxHeartbeats 2000000 in
theorem l2Entry_any (st fl : ByteArray) (w : World) (h1 : st.size ≤ maxLen) (h2 : fl.size ≤ maxLen) :
    Calls Tryz.prog 57 #[.agg #[.string st, .string fl]] w fun e w' => e = .returned (.bool (entT st fl)) ∧ Below w.heap.size w w' := by
  have HN : Hid (fl.size ≤ maxLen) := h2
  unfold maxLen at h2
  go_enter Tryz.func57, Tryz.ntmps57
  go_wp2_with fail
  go_loopw [3] (fun i wr => ∃ k n : Nat, i = .int .i64 (k : Int) ∧ k ≤ fl.size ∧ inr 65 90 (fl.data.toList.take k) = true ∧ ascT fl k = true ∧ wr = (w.alloc (.cells #[.string st, .string fl] 80)).drewN n) (fun i _ => fl.size - (intOf i).toNat)
  case atStart => exact ⟨0, 0, rfl, Nat.zero_le _, rfl, ascT_small fl 0 (by omega), rfl⟩
  case round =>
    obtain ⟨k, n, rfl, hk, hr, ha, rfl⟩ := hrel
    have HR : Hid (inr 65 90 (fl.data.toList.take k) = true) := hr
    have HA : Hid (ascT fl k = true) := ha
    clear hr ha
    by_cases hlt : k < fl.size
    · have hlt1 : k + 1 ≤ fl.size := hlt
      have hli : (k : Int) < (fl.size : Int) := by omega
      have hli1 : (k : Int) + 1 ≤ (fl.size : Int) := by omega
      have HM : Hid ((fl.extract k (k + 1)).size ≤ maxLen) := show (fl.extract k (k + 1)).size ≤ maxLen by rw [(extract_one fl k hlt).2]; unfold maxLen; omega
      have hf1 := flagT_one fl k hlt
      cases hf : flagT (fl.extract k (k + 1)) with
      | false =>
        have HE : Hid (entT st fl = false) := show entT st fl = false by
          unfold entT
          rw [flagsT_bad fl (.inr (.inl (inr_bad 65 90 fl k hlt (by rw [hf] at hf1; simp at hf1; omega))))]
          simp
        clear hf1
        go_wp2_with fail
        go_quiet ((first | (go_at_call 83; refine (l2Flag_any _ _ HM.out).mono ?_; rintro e w'' ⟨rfl, rfl⟩; rw [hf]; exact ⟨rfl, _, rfl⟩)))
        go_wp2_with fail
        go_ret
        rw [HE.out]
        exact ⟨rfl, below_drewN (below_drewN ((Below.refl _ _).alloc (Nat.le_refl _) _) _) _⟩
      | true =>
        have HR' : Hid (inr 65 90 (fl.data.toList.take (k + 1)) = true) := show inr 65 90 (fl.data.toList.take (k + 1)) = true by
          rw [inr_take_succ 65 90 fl k hlt, HR.out, ← hf1, hf]; rfl
        clear hf1
        by_cases hk0 : k = 0
        · subst hk0
          go_wp2_with fail
          go_quiet ((first | (go_at_call 83; refine (l2Flag_any _ _ HM.out).mono ?_; rintro e w'' ⟨rfl, rfl⟩; rw [hf]; exact ⟨rfl, _, rfl⟩)))
          go_wp2_with fail
          go_roundw
          case rel => exact ⟨1, _, by go_num, by omega, HR'.out, ascT_small fl 1 (by omega), rfl⟩
          case measure => simp [intOf]; omega
        · obtain ⟨j, hj⟩ : ∃ j : Nat, k = j + 1 := ⟨k - 1, by omega⟩
          have hlt0 : j < fl.size := by omega
          have hi0 : (j : Int) < (fl.size : Int) := by omega
          have hk1 : (0 : Int) < (k : Int) := by omega
          have hk2 : 0 < k := by omega
          have hk3 : ¬ k = 0 := by omega
          have r1 : IntKind.i64.wrap ((k : Int) - 1) = (j : Int) := by rw [IntWalk.i64_in _ (by omega)]; omega
          have r2 : IntKind.i64.wrap ((k : Int) + 1) = (k : Int) + 1 := IntWalk.i64_in _ (by omega)
          have HB0 := bt_get fl j hlt0
          have HB1 := bt_get fl k hlt
          by_cases hge : fl[k].toNat ≤ fl[j].toNat
          · have HX : Hid (ascT fl fl.size = false) := ascT_bad fl j fl.size (by omega) (by rw [← hj, HB0, HB1]; omega)
            have HE : Hid (entT st fl = false) := show entT st fl = false by
              unfold entT
              rw [flagsT_bad fl (.inr (.inr HX.out))]
              simp
            clear HB0 HB1 hj
            go_wp2_with fail
            go_quiet ((first | (go_at_call 83; refine (l2Flag_any _ _ HM.out).mono ?_; rintro e w'' ⟨rfl, rfl⟩; rw [hf]; exact ⟨rfl, _, rfl⟩)))
            go_wp2_with fail
            go_ret
            rw [HE.out]
            exact ⟨rfl, below_drewN (below_drewN ((Below.refl _ _).alloc (Nat.le_refl _) _) _) _⟩
          · have HX : Hid (ascT fl (k + 1) = true) := show ascT fl (k + 1) = true by
              have hk2 : ascT fl (j + 2) = (ascT fl (j + 1) && decide (bt fl j < bt fl (j + 1))) := ascT_succ fl j
              rw [show k + 1 = j + 2 by omega, hk2, ← hj, HA.out, HB0, HB1]; simp; omega
            clear HB0 HB1 hj
            go_wp2_with fail
            go_quiet ((first | (go_at_call 83; refine (l2Flag_any _ _ HM.out).mono ?_; rintro e w'' ⟨rfl, rfl⟩; rw [hf]; exact ⟨rfl, _, rfl⟩)))
            go_wp2_with fail
            go_roundw
            case rel => exact ⟨k + 1, _, by go_num, by omega, HR'.out, HX.out, rfl⟩
            case measure => simp [intOf]; omega
    · have hke : k = fl.size := by omega
      have HR2 : Hid (inr 65 90 fl.data.toList = true) := show inr 65 90 fl.data.toList = true by rw [← inr_all 65 90 fl k (by omega), HR.out]
      have HA2 : Hid (ascT fl fl.size = true) := show ascT fl fl.size = true by rw [← hke]; exact HA.out
      have HE : Hid (entT st fl = (wok st && decide ((fl.size : Int) ≤ 4))) := show entT st fl = (wok st && decide ((fl.size : Int) ≤ 4)) by
        unfold entT flagsT; rw [HR2.out, HA2.out]; simp
      clear hke
      cases hw : wok st with
      | false =>
        go_wp2_with (go_at_call 84; refine (l1Word_any _ _ h1).mono ?_; rintro e w' ⟨rfl, rfl⟩; rw [hw])
        go_ret
        rw [HE.out, hw]
        exact ⟨rfl, below_drewN ((Below.refl _ _).alloc (Nat.le_refl _) _) _⟩
      | true =>
        go_wp2_with (go_at_call 84; refine (l1Word_any _ _ h1).mono ?_; rintro e w' ⟨rfl, rfl⟩; rw [hw])
        go_ret
        rw [HE.out, hw]
        exact ⟨rfl, below_drewN ((Below.refl _ _).alloc (Nat.le_refl _) _) _⟩
end Go.Proofs.YthedglgljehmgaaGreatDoor
/-
  What endTurned tells: whether the last two letters of two texts are each other's turned.
-/
namespace Go.Proofs.YthedglgljehmgaaGreatDoor
open Go.RowKit
set_option linter.unusedVariables false
theorem u8_int (a b : UInt8) : (((a.toNat : Int) == (b.toNat : Int)) = (a == b)) := by
  rw [Bool.eq_iff_iff]
  simp only [beq_iff_eq]
  constructor
  · intro h; exact UInt8.toNat_inj.1 (by omega)
  · rintro rfl; rfl
theorem tr_eq (a b : ByteArray) (i k : Nat) (ha : i < a.size) (hb : k < b.size) (hi : 0 < i) (hk : 0 < k) :
    tr (lt a) (lt b) i k = ((a[i] == b[k - 1]) && (a[i - 1] == b[k])) := by
  unfold tr
  rw [lt_get a i ha, lt_get b k hb, lt_get a (i - 1) (by omega), lt_get b (k - 1) (by omega)]
  simp [hi, hk]
theorem tr_first (a b : ByteArray) (k : Nat) : tr (lt a) (lt b) 0 k = false := by simp [tr]
theorem tr_first' (a b : ByteArray) (i : Nat) : tr (lt a) (lt b) i 0 = false := by simp [tr]
/-- The last two letters, by the texts' own lengths. -/
def turnedEnds (a b : ByteArray) : Bool :=
  if h : 1 < a.size ∧ 1 < b.size then (a[a.size - 1]'(by omega) == b[b.size - 2]'(by omega)) && (a[a.size - 2]'(by omega) == b[b.size - 1]'(by omega)) else false
theorem turnedEnds_eq (a b : ByteArray) (i k : Nat) (ha : a.size = i + 1) (hb : b.size = k + 1) : turnedEnds a b = tr (lt a) (lt b) i k := by
  unfold turnedEnds
  split
  · next h =>
    rw [tr_eq a b i k (by omega) (by omega) (by omega) (by omega)]
    have e1 : a.size - 1 = i := by omega
    have e2 : b.size - 2 = k - 1 := by omega
    have e3 : a.size - 2 = i - 1 := by omega
    have e4 : b.size - 1 = k := by omega
    simp only [e1, e2, e3, e4]
  · next h =>
    have : i = 0 ∨ k = 0 := by omega
    rcases this with rfl | rfl
    · rw [tr_first]
    · rw [tr_first']
end Go.Proofs.YthedglgljehmgaaGreatDoor
