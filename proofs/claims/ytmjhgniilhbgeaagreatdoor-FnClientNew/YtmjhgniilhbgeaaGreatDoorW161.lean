/-
  Keys; clients that begin.
-/
import Derived.Test.YtmjhgniilhbgeaaGreatDoorW160
import Derived.Test.YtmjhgniilhbgeaaGreatDoorW162
namespace Go.Proofs.YtmjhgniilhbgeaaGreatDoor
open Go.RowKit
set_option linter.unusedVariables false
set_option maxHeartbeats 400000 in
theorem keyOk_any (s : ByteArray) (w : World) (hs : s.size ≤ maxLen) : Calls Tryz.prog 13 #[.string s] w fun e w' => e = .returned (.bool (keyT s)) ∧ w' = w := by
  unfold maxLen at hs
  by_cases h1 : 1 ≤ s.size
  · have hne := listSome h1
    have hi : 1 ≤ (s.size : Int) ∧ (s.size : Int) - 1 < s.size := by omega
    by_cases h2 : s.size ≤ 64
    · have h2' : (s.size : Int) ≤ 64 := by omega
      have HK : Hid (∀ (hh : s.size - 1 < s.size), keyT s = ((s[s.size - 1].toNat : Int) != 0)) := keyT_in h1 h2
      clear h1 h2
      go_enter Tryz.func13, Tryz.ntmps13
      go_wp2
      go_ret
      rw [HK.out (by omega)]
      exact ⟨by simp [hne], rfl⟩
    · have h2' : 64 < (s.size : Int) := by omega
      have HK : Hid (keyT s = false) := keyT_long (by omega)
      clear h1 h2
      go_enter Tryz.func13, Tryz.ntmps13
      go_wp2
      go_ret
      rw [HK.out]
      exact ⟨rfl, rfl⟩
  · have hne := listNil h1
    have HK : Hid (keyT s = false) := keyT_none h1
    clear h1
    go_enter Tryz.func13, Tryz.ntmps13
    go_wp2
    go_ret
    rw [HK.out]
    exact ⟨by simp, rfl⟩
set_option maxHeartbeats 400000 in
theorem l6Key_any (s : ByteArray) (w : World) (hs : s.size ≤ maxLen) : Calls Tryz.prog 14 #[.string s] w fun e w' => e = .returned (.bool (keyT s)) ∧ w' = w := by
  unfold maxLen at hs
  cases hin : inU s.size 1 64 with
  | false =>
    have HK : Hid (keyT s = false) := by
      by_cases h1 : 1 ≤ s.size
      · refine keyT_long ?_
        simp [inU] at hin
        have := hin (by omega)
        omega
      · exact keyT_none h1
    go_enter Tryz.func14, Tryz.ntmps14
    go_wp2_with fail
    refine (l1InU_is hin _).mono ?_
    rintro e w1 ⟨rfl, rfl⟩
    go_wp2
    go_ret
    rw [HK.out]
    exact ⟨rfl, rfl⟩
  | true =>
    have h1 : 1 ≤ s.size ∧ s.size ≤ 64 := by simp [inU] at hin; omega
    have HK : Hid (∀ (hh : s.size - 1 < s.size), keyT s = ((s[s.size - 1].toNat : Int) != 0)) := keyT_in h1.1 h1.2
    have hi : 1 ≤ (s.size : Int) ∧ (s.size : Int) - 1 < s.size := by omega
    clear h1
    go_enter Tryz.func14, Tryz.ntmps14
    go_wp2_with fail
    refine (l1InU_is hin _).mono ?_
    rintro e w1 ⟨rfl, rfl⟩
    go_wp2
    go_ret
    rw [HK.out (by omega)]
    exact ⟨rfl, rfl⟩
set_option maxHeartbeats 400000 in
theorem implClientNew_any (w : World) (s : ByteArray) (hs : s.size ≤ maxLen) : Calls Tryz.prog 5 #[.string s] w fun e w' => ∃ v, e = .returned v ∧ ClientOwn w.heap.size w'.heap.size w' v (newT s) ∧ Below w.heap.size w w' := by
  cases hk : keyT s with
  | false =>
    have HC := @newClient
    go_enter Tryz.func5, Tryz.ntmps5
    go_wp2_with fail
    refine (keyOk_any _ _ hs).mono ?_
    rintro e w1 ⟨rfl, rfl⟩
    rw [hk]
    go_wp2
    refine bodyPost_ret (v := .agg #[.string ⟨#[]⟩, .bool false, .int .i64 0, .slice none 0 0, .slice none 0 0, .string ⟨#[]⟩]) (by simp [results, Tryz.results5, go_sem]) rfl ⟨_, rfl, HC _ s false hk, ?_⟩
    repeat refine Below.setCell ?_ (Nat.le_refl _) _
    exact (Below.refl _ _).alloc (Nat.le_refl _) _
  | true =>
    have HC := @newClient
    go_enter Tryz.func5, Tryz.ntmps5
    go_wp2_with fail
    refine (keyOk_any _ _ hs).mono ?_
    rintro e w1 ⟨rfl, rfl⟩
    rw [hk]
    go_wp2
    refine bodyPost_ret (v := .agg #[.string s, .bool true, .int .i64 0, .slice none 0 0, .slice none 0 0, .string ⟨#[]⟩]) (by simp [results, Tryz.results5, go_sem]) rfl ⟨_, rfl, HC _ s true hk, ?_⟩
    repeat refine Below.setCell ?_ (Nat.le_refl _) _
    exact (Below.refl _ _).alloc (Nat.le_refl _) _
set_option maxHeartbeats 400000 in
theorem specClientNew_any (w : World) (s : ByteArray) (hs : s.size ≤ maxLen) : Calls Tryz.prog 7 #[.string s] w fun e w' => ∃ v, e = .returned v ∧ ClientAt w' v (newT s) ∧ Below w.heap.size w w' := by
  cases hk : keyT s with
  | false =>
    have HC := @newClient
    go_enter Tryz.func7, Tryz.ntmps7
    go_wp2_with fail
    refine (l6Key_any _ _ hs).mono ?_
    rintro e w1 ⟨rfl, rfl⟩
    rw [hk]
    go_wp2
    refine bodyPost_ret (v := .agg #[.string ⟨#[]⟩, .bool false, .int .i64 0, .slice none 0 0, .slice none 0 0, .string ⟨#[]⟩]) (by simp [results, Tryz.results7, go_sem]) rfl ⟨_, rfl, (HC (lo := 0) (hi := 0) _ s false hk).at, ?_⟩
    repeat refine Below.setCell ?_ (Nat.le_refl _) _
    exact (Below.refl _ _).alloc (Nat.le_refl _) _
  | true =>
    have HC := @newClient
    go_enter Tryz.func7, Tryz.ntmps7
    go_wp2_with fail
    refine (l6Key_any _ _ hs).mono ?_
    rintro e w1 ⟨rfl, rfl⟩
    rw [hk]
    go_wp2
    refine bodyPost_ret (v := .agg #[.string s, .bool true, .int .i64 0, .slice none 0 0, .slice none 0 0, .string ⟨#[]⟩]) (by simp [results, Tryz.results7, go_sem]) rfl ⟨_, rfl, (HC (lo := 0) (hi := 0) _ s true hk).at, ?_⟩
    repeat refine Below.setCell ?_ (Nat.le_refl _) _
    exact (Below.refl _ _).alloc (Nat.le_refl _) _
end Go.Proofs.YtmjhgniilhbgeaaGreatDoor
