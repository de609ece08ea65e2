/-
  SplitBack of both; the law FnExactSplitBack.
-/
import Derived.Test.YtpebhenkdglohaaDoorGW2
import Derived.Test.YtpebhenkdglohaaDoorShelf
import Derived.Test.YtpebhenkdglohaaDoorM43
import Derived.Test.YtpebhenkdglohaaDoorW330
namespace Go.Proofs.YtpebhenkdglohaaDoor
open Go.RowKit
set_option linter.unusedVariables false
theorem ret_str2 {a b : ByteArray} (h : a = b) : Ending.returned (.string a) = .returned (.string b) := by rw [h]
/-- A text without strokes. -/
def noT (s : ByteArray) : ByteArray := ⟨(noS s.data.toList).toArray⟩
/-- What the beginning of length k leaves. -/
def noTo (s : ByteArray) (k : Nat) : ByteArray := ⟨(noS (s.data.toList.take k)).toArray⟩
theorem noTo_size (s : ByteArray) (k : Nat) : (noTo s k).size ≤ k := by
  show (noS (s.data.toList.take k)).toArray.size ≤ k
  rw [List.size_toArray]
  have h1 := List.length_filter_le (fun c : UInt8 => c != 45) (s.data.toList.take k)
  have h2 : (s.data.toList.take k).length ≤ k := List.length_take_le _ _
  unfold noS; omega
theorem noT_size (s : ByteArray) : (noT s).size ≤ s.size := by
  show (noS s.data.toList).toArray.size ≤ s.size
  rw [List.size_toArray]
  exact List.length_filter_le _ _
theorem noTo_all (s : ByteArray) (k : Nat) (h : s.size ≤ k) : noTo s k = noT s := by
  unfold noTo noT
  rw [List.take_of_length_le (by exact h)]
theorem ext_one2 (s : ByteArray) (k : Nat) (h : k < s.size) : (s.extract k (k + 1)).data.toList = [s[k]] := by
  have e : s[k] = s.data.toList[k]'(by simpa using h) := rfl
  rw [e]
  simp only [ByteArray.data_extract, Array.toList_extract]
  rw [List.extract_eq_take_drop, show k + 1 - k = 1 by omega, List.drop_eq_getElem_cons (by simpa using h)]
  rfl
theorem noTo_step (s : ByteArray) (k : Nat) (h : k < s.size) : noTo s (k + 1) = if s[k] != 45 then noTo s k ++ s.extract k (k + 1) else noTo s k := by
  have e : s.data.toList.take (k + 1) = s.data.toList.take k ++ [s[k]] := by
    rw [List.take_succ_eq_append_getElem (by simpa using h)]; rfl
  have e2 : noS (s.data.toList.take (k + 1)) = noS (s.data.toList.take k) ++ if s[k] != 45 then [s[k]] else [] := by
    unfold noS; rw [e, List.filter_append]; congr 1
    rw [List.filter_cons, List.filter_nil]
  unfold noTo
  rw [e2]
  split
  · apply ByteArray.ext
    apply Array.toList_inj.1
    rw [ByteArray.data_append, Array.toList_append, ext_one2 s k h]
  · rw [List.append_nil]
theorem noTo_zero (s : ByteArray) : noTo s 0 = ⟨#[]⟩ := rfl
set_option maxHeartbeats 1000000 in
theorem specSplitBack_any (s : ByteArray) (w : World) (hs : s.size ≤ 1048576) :
    Calls Tryd.prog 7 #[.string s] w fun e w' => e = .returned (.string (noT s)) ∧ w' = w := by
  go_enter Tryd.func7, Tryd.ntmps7
  go_wp2
  go_loop [3, 4] (fun o i => ∃ k : Nat, k ≤ s.size ∧ i = .int .i64 k ∧ o = .string (noTo s k)) (fun _ i => s.size - (intOf i).toNat)
  case atStart => exact ⟨0, Nat.zero_le _, rfl, by rw [noTo_zero]⟩
  case round =>
    obtain ⟨k, hk, rfl, rfl⟩ := hrel
    have hz := noTo_size s k
    by_cases hlt : k < s.size
    · have HST : Hid (noTo s (k + 1) = if s[k] != 45 then noTo s k ++ s.extract k (k + 1) else noTo s k) := noTo_step s k hlt
      obtain ⟨X, hX⟩ : ∃ X, noTo s k = X := ⟨_, rfl⟩
      rw [hX] at HST hz ⊢
      obtain ⟨E, hE⟩ : ∃ E, s.extract k (k + 1) = E := ⟨_, rfl⟩
      have hEs : E.size = 1 := by rw [← hE]; simp; omega
      have hl1 : (k : Int) < (s.size : Int) := by omega
      by_cases hc : (s[k].toNat : Int) = 45
      · have HN : Hid (noTo s (k + 1) = X) := by
          show noTo s (k + 1) = X
          have : s[k] = 45 := UInt8.toNat_inj.1 (by show s[k].toNat = 45; omega)
          rw [HST.out, if_neg (by rw [this]; decide)]
        clear hX hE
        go_wp2
        go_round
        case rel => exact ⟨k + 1, by omega, by go_num, by rw [HN.out]⟩
        case measure => simp [intOf]; omega
      · have HN : Hid (noTo s (k + 1) = X ++ s.extract k (k + 1)) := by
          show noTo s (k + 1) = _
          rw [HST.out, if_pos]
          simp only [bne_iff_ne, ne_eq]
          intro h
          exact hc (by rw [h]; rfl)
        clear hX hE hEs
        go_wp2
        go_round
        case rel => exact ⟨k + 1, by omega, by go_num, by rw [HN.out]⟩
        case measure => simp [intOf]; omega
    · have HA : Hid (noTo s k = noT s) := noTo_all s k (by omega)
      go_wp2
      go_ret
      exact ⟨ret_str2 (by rw [HA.out]), rfl⟩
set_option maxHeartbeats 400000 in
theorem implSplitBack_any (s : ByteArray) (w : World) (hs : s.size ≤ 1048576) (hm : maxTab w) :
    Calls Tryd.prog 6 #[.string s] w fun e w' => e = .returned (.string (noT s)) ∧ Below w.heap.size w w' := by
  obtain ⟨m, hc⟩ := hm
  have HR := Tryd.strings_ReplaceAll s ⟨#[45]⟩ ⟨#[]⟩ m w (by omega) hc (by decide) (by show s.size + _ * 0 ≤ _; omega)
  have e : (⟨(Lib.replaceAll s.data.toList (⟨#[45]⟩ : ByteArray).data.toList (⟨#[]⟩ : ByteArray).data.toList).toArray⟩ : ByteArray) = noT s := by
    show (⟨(Lib.replaceAll s.data.toList [45] []).toArray⟩ : ByteArray) = _
    rw [replaceAll_eq]; rfl
  rw [e] at HR
  have HR2 : Hid (Calls Tryd.prog 13 #[.string s, .string ⟨#[45]⟩, .string ⟨#[]⟩] w fun e w' => e = .returned (.string (noT s)) ∧ Below w.heap.size w w') := HR
  clear HR e hc
  go_enter Tryd.func6, Tryd.ntmps6
  go_wp2_with fail
  refine Calls.mono HR2.out ?_
  rintro e w' ⟨rfl, hb⟩
  go_wp2_with fail
  go_ret
  exact ⟨rfl, hb⟩
set_option maxHeartbeats 400000 in
theorem fnExactSplitBack_walk (s : ByteArray) (w : World) (hs : s.size ≤ maxLen) (hm : maxTab w) :
    Calls Tryd.prog 4 #[.string s] w fun e w' => e = .returned (.bool true) ∧ Below w.heap.size w w' := by
  unfold maxLen at hs
  have HM : Hid (maxTab w) := hm
  clear hm
  by_cases g1 : (1048576 : Int) < (s.size : Int)
  · go_enter Tryd.func4, Tryd.ntmps4
    go_wp2_with fail
    go_ret
    exact ⟨rfl, Below.refl _ _⟩
  have hs2 : s.size ≤ 1048576 := by omega
  go_enter Tryd.func4, Tryd.ntmps4
  go_wp2_with fail
  refine (specSplitBack_any s _ hs2).mono ?_
  rintro e w1 ⟨rfl, hw⟩
  have hw2 := hw.symm
  clear hw
  subst hw2
  go_wp2_with fail
  refine (implSplitBack_any s _ hs2 HM.out).mono ?_
  rintro e w2 ⟨rfl, hb⟩
  go_wp2_with fail
  go_ret
  exact ⟨rfl, hb⟩
end Go.Proofs.YtpebhenkdglohaaDoor
