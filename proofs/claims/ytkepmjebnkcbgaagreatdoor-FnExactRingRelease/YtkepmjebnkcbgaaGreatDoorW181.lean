/-
  Figures of sums; numbers in decimals.
-/
import Derived.Test.YtkepmjebnkcbgaaGreatDoorProg
import Derived.Test.YtkepmjebnkcbgaaGreatDoorShelf
import Derived.Test.YtkepmjebnkcbgaaGreatDoorGW2
import Derived.Test.YtkepmjebnkcbgaaGreatDoorW441
import Derived.Deep.RegionWith
import Derived.Laws.BitsLemmas
import Derived.Lib.ItoaMem
import Derived.Lib.ItoaLen
namespace Go.Proofs.YtkepmjebnkcbgaaGreatDoor
open Go.RowKit
set_option linter.unusedVariables false
/-- A figure of sixteen. -/
def figB (c : Int) : Bool := (decide (48 ≤ c) && decide (c ≤ 57)) || (decide (97 ≤ c) && decide (c ≤ 102))
def figsL (l : List UInt8) : Bool := l.all fun c => figB (c.toNat : Int)
def sumT (s : ByteArray) : Bool := decide (s.size = 64) && figsL s.data.toList
theorem figs_take_succ (s : ByteArray) (k : Nat) (h : k < s.size) : figsL (s.data.toList.take (k + 1)) = (figsL (s.data.toList.take k) && figB (s[k].toNat : Int)) := by
  have e : s.data.toList.take (k + 1) = s.data.toList.take k ++ [s[k]] := by
    rw [List.take_succ_eq_append_getElem (by simpa using h)]; rfl
  rw [e]; simp [figsL, List.all_append]
theorem figs_all (s : ByteArray) (k : Nat) (h : s.size ≤ k) : figsL (s.data.toList.take k) = figsL s.data.toList := by
  rw [List.take_of_length_le (by simpa using h)]
theorem figs_bad (s : ByteArray) (k : Nat) (h : k < s.size) (hb : figB (s[k].toNat : Int) = false) : figsL s.data.toList = false := by
  have hm : s[k] ∈ s.data.toList := by
    have : s[k] = s.data[k] := rfl
    rw [this]; simp
  unfold figsL
  rw [List.all_eq_false]
  exact ⟨s[k], hm, by rw [hb]; decide⟩
/-- Where a byte stands among the figures. -/
def figures : List UInt8 := [48, 49, 50, 51, 52, 53, 54, 55, 56, 57, 97, 98, 99, 100, 101, 102]
theorem figures_at : ∀ n : Fin 256, decide (Lib.indexByte figures n.val.toUInt8 < 0) = !figB (n.val : Int) := by decide +kernel
theorem figures_index (c : UInt8) : decide (Lib.indexByte figures c < 0) = !figB (c.toNat : Int) := by
  have h := figures_at ⟨c.toNat, c.toNat_lt⟩
  have e : c.toNat.toUInt8 = c := by simp
  simp only [e] at h
  exact h
theorem index_any (c : UInt8) (b : Bool) (hb : figB (c.toNat : Int) = b) (w : World) : Calls Tryz.prog 124 #[.string ⟨#[48, 49, 50, 51, 52, 53, 54, 55, 56, 57, 97, 98, 99, 100, 101, 102]⟩, .int .u8 (c.toNat : Int)] w fun e w' => ∃ i : Int, e = .returned (.int .i64 i) ∧ (decide (i < 0) = !b) ∧ w' = w := by
  refine (Tryz.strings_IndexByte _ _ _).mono ?_
  rintro e w1 ⟨rfl, rfl⟩
  refine ⟨_, rfl, ?_, rfl⟩
  have e1 : ((c.toNat : Int).toNat.toUInt8) = c := by simp
  rw [e1, ← hb]
  exact figures_index c
set_option maxHeartbeats 1000000 in
theorem sumOk_any (s : ByteArray) (w : World) (hs : s.size ≤ maxLen) : Calls Tryz.prog 100 #[.string s] w fun e w' => e = .returned (.bool (sumT s)) ∧ w' = w := by
  unfold maxLen at hs
  by_cases h64 : s.size = 64
  · have h64' : (s.size : Int) = 64 := by omega
    have HS : Hid (sumT s = figsL s.data.toList) := by show sumT s = _; simp [sumT, h64]
    go_enter Tryz.func100, Tryz.ntmps100
    go_wp2
    go_loop [9] (fun i => ∃ k : Nat, k ≤ 64 ∧ i = .int .i64 k ∧ figsL (s.data.toList.take k) = true) (fun i => 64 - (intOf i).toNat)
    case atStart => exact ⟨0, Nat.zero_le _, rfl, rfl⟩
    case round =>
      obtain ⟨k, hk, rfl, hr⟩ := hrel
      have HR : Hid (figsL (s.data.toList.take k) = true) := hr
      clear hr
      by_cases hlt : k < 64
      · have hlt' : (k : Int) < 64 := by omega
        have hks : k < s.size := by omega
        have hi : 0 ≤ (k : Int) ∧ (k : Int) < s.size := by omega
        cases hf : figB (s[k].toNat : Int) with
        | false =>
          have HB : Hid (figsL s.data.toList = false) := figs_bad s k hks hf
          go_wp2_with fail
          refine (index_any _ _ hf _).mono ?_
          rintro e w1 ⟨i, rfl, hin, rfl⟩
          have hin' : i < 0 := by simpa using hin
          clear hin
          go_wp2
          go_ret
          exact ⟨ret_bool (by rw [HS.out, HB.out]), rfl⟩
        | true =>
          have HN : Hid (figsL (s.data.toList.take (k + 1)) = true) := by show figsL _ = true; rw [figs_take_succ s k hks, HR.out, hf]; rfl
          go_wp2_with fail
          refine (index_any _ _ hf _).mono ?_
          rintro e w1 ⟨i, rfl, hin, rfl⟩
          have hin' : ¬ i < 0 := by simpa using hin
          clear hin
          go_wp2
          go_round
          case rel => exact ⟨k + 1, by omega, by go_num, HN.out⟩
          case measure => simp [intOf]; omega
      · have hlt' : ¬ (k : Int) < 64 := by omega
        go_wp2
        go_ret
        exact ⟨ret_bool (by rw [HS.out, ← figs_all s k (by omega), HR.out]), rfl⟩
  · have h64' : ¬ (s.size : Int) = 64 := by omega
    have HS : Hid (sumT s = false) := by show sumT s = _; simp [sumT, h64]
    go_enter Tryz.func100, Tryz.ntmps100
    go_wp2
    go_ret
    exact ⟨ret_bool (by rw [HS.out]), rfl⟩
set_option maxHeartbeats 1000000 in
theorem l6Figure_any (c : Int) (w : World) (h0 : 0 ≤ c) (h1 : c ≤ 255) : Calls Tryz.prog 82 #[.int .u8 c] w fun e w' => e = .returned (.bool (figB c)) ∧ w' = w := by
  by_cases a1 : 48 ≤ c <;> by_cases a2 : c ≤ 57 <;> by_cases a3 : 97 ≤ c <;> by_cases a4 : c ≤ 102
  all_goals
    first
    | (exfalso; omega)
    | (go_enter Tryz.func82, Tryz.ntmps82
       go_wp2
       go_ret
       exact ⟨ret_bool (by simp [figB, a1, a2, a3, a4]), rfl⟩)
end Go.Proofs.YtkepmjebnkcbgaaGreatDoor
