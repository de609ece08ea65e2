/-
  What endTurned tells: whether the last two letters of two texts are each other's turned.
-/
import Derived.Test.YtnbjjdbaddiijaaProg
import Derived.Test.YtnbjjdbaddiijaaM3
import Derived.WalkKit
import Derived.WalkSpells
import Derived.WalkLawsBesides
import Derived.Deep.QuietTactic
import Derived.BigQuiet
namespace Go.Proofs.Ytnbjjdbaddiijaa
open Go.RowKit
set_option linter.unusedVariables false
theorem u8_int (a b : UInt8) : (((a.toNat : Int) == (b.toNat : Int)) = (a == b)) := by
  rw [Bool.eq_iff_iff]
  simp only [beq_iff_eq]
  constructor
  · intro h; exact UInt8.toNat_inj.1 (by omega)
  · rintro rfl; rfl
theorem tr_eq (a b : ByteArray) (i k : Nat) (ha : i < a.size) (hb : k < b.size) (hi : 0 < i) (hk : 0 < k) :
    tr (lt a) (lt b) i k = ((a[i] == b[k - 1]) && (a[i - 1] == b[k])) := by
  unfold tr
  rw [lt_get a i ha, lt_get b k hb, lt_get a (i - 1) (by omega), lt_get b (k - 1) (by omega)]
  simp [hi, hk]
theorem tr_first (a b : ByteArray) (k : Nat) : tr (lt a) (lt b) 0 k = false := by simp [tr]
theorem tr_first' (a b : ByteArray) (i : Nat) : tr (lt a) (lt b) i 0 = false := by simp [tr]
/-- The last two letters, by the texts' own lengths. -/
def turnedEnds (a b : ByteArray) : Bool :=
  if h : 1 < a.size ∧ 1 < b.size then (a[a.size - 1]'(by omega) == b[b.size - 2]'(by omega)) && (a[a.size - 2]'(by omega) == b[b.size - 1]'(by omega)) else false
theorem turnedEnds_eq (a b : ByteArray) (i k : Nat) (ha : a.size = i + 1) (hb : b.size = k + 1) : turnedEnds a b = tr (lt a) (lt b) i k := by
  unfold turnedEnds
  split
  · next h =>
    rw [tr_eq a b i k (by omega) (by omega) (by omega) (by omega)]
    have e1 : a.size - 1 = i := by omega
    have e2 : b.size - 2 = k - 1 := by omega
    have e3 : a.size - 2 = i - 1 := by omega
    have e4 : b.size - 1 = k := by omega
    simp only [e1, e2, e3, e4]
  · next h =>
    have : i = 0 ∨ k = 0 := by omega
    rcases this with rfl | rfl
    · rw [tr_first]
    · rw [tr_first']
set_option maxHeartbeats 400000 in
theorem endTurned_raw (a b : ByteArray) (w : World) (ha : a.size ≤ 1000) (hb : b.size ≤ 1000) :
    Calls Try.prog 34 #[.string a, .string b] w fun e w' => e = .returned (.bool (turnedEnds a b)) ∧ ∃ n, w' = w.drewN n := by
  by_cases h1 : (1 : Int) < (a.size : Int)
  · by_cases h2 : (1 : Int) < (b.size : Int)
    · obtain ⟨i1, i2, k1, k2, q1, q2, q3, q4⟩ : ∃ i1 i2 k1 k2 : Nat, a.size - 1 = i1 ∧ a.size - 2 = i2 ∧ b.size - 1 = k1 ∧ b.size - 2 = k2 := ⟨_, _, _, _, rfl, rfl, rfl, rfl⟩
      have r1 : IntKind.i64.wrap ((a.size : Int) - 1) = (i1 : Int) := by rw [IntWalk.i64_in _ (by omega)]; omega
      have r2 : IntKind.i64.wrap ((a.size : Int) - 2) = (i2 : Int) := by rw [IntWalk.i64_in _ (by omega)]; omega
      have r3 : IntKind.i64.wrap ((b.size : Int) - 1) = (k1 : Int) := by rw [IntWalk.i64_in _ (by omega)]; omega
      have r4 : IntKind.i64.wrap ((b.size : Int) - 2) = (k2 : Int) := by rw [IntWalk.i64_in _ (by omega)]; omega
      have l1 : (i1 : Int) < (a.size : Int) := by omega
      have l2 : (i2 : Int) < (a.size : Int) := by omega
      have l3 : (k1 : Int) < (b.size : Int) := by omega
      have l4 : (k2 : Int) < (b.size : Int) := by omega
      have HE : Hid (turnedEnds a b = (((a[i1]'(by omega)) == (b[k2]'(by omega))) && ((a[i2]'(by omega)) == (b[k1]'(by omega))))) := by
        unfold turnedEnds
        rw [dif_pos ⟨by omega, by omega⟩]
        simp only [q1, q2, q3, q4]; exact trivial
      clear q1 q2 q3 q4
      cases e1 : ((a[i1]'(by omega)) == (b[k2]'(by omega))) with
      | false =>
        have e2 := (u8_int _ _).trans e1
        have HT : Hid (turnedEnds a b = false) := by rw [HE, e1]; exact rfl
        clear e1
        go_enter Try.func34, Try.ntmps34
        go_wp2
        go_quiet (fail)
        go_wp2
        go_ret
        rw [HT]
        exact ⟨rfl, _, rfl⟩
      | true =>
        have e2 := (u8_int _ _).trans e1
        have HT : Hid (turnedEnds a b = ((a[i2]'(by omega)) == (b[k1]'(by omega)))) := by rw [HE, e1]; exact rfl
        clear e1
        go_enter Try.func34, Try.ntmps34
        go_wp2
        go_quiet (fail)
        go_wp2
        go_ret
        rw [HT, ← u8_int]
        exact ⟨rfl, _, rfl⟩
    · have HT : Hid (turnedEnds a b = false) := by
        unfold turnedEnds
        rw [dif_neg (by omega)]; exact rfl
      have h2' : decide ((1 : Int) < (b.size : Int)) = false := by simp; omega
      clear h2
      go_enter Try.func34, Try.ntmps34
      go_wp2
      go_quiet (fail)
      go_wp2
      go_ret
      rw [HT]
      exact ⟨rfl, _, rfl⟩
  · have HT : Hid (turnedEnds a b = false) := by
      unfold turnedEnds
      rw [dif_neg (by omega)]; exact rfl
    have h1' : decide ((1 : Int) < (a.size : Int)) = false := by simp; omega
    clear h1
    go_enter Try.func34, Try.ntmps34
    go_wp2
    go_quiet (fail)
    go_wp2
    go_ret
    rw [HT]
    exact ⟨rfl, _, rfl⟩
end Go.Proofs.Ytnbjjdbaddiijaa
