/-
  Entries: impl.entryOk and spec.l2Entry.
-/
import Derived.Test.YthikcililececaaW34
import Derived.Test.YthikcililececaaW20
namespace Go.Proofs.Ythikcililececaa
open Go.RowKit
set_option linter.unusedVariables false
/-- An entry is ok. -/
def entT (st fl : ByteArray) : Bool := wok st && flagsT fl
theorem extract_one (s : ByteArray) (j : Nat) (h : j < s.size) : (s.extract j (j + 1)).data.toList = [s[j]] ∧ (s.extract j (j + 1)).size = 1 := by
  have h1 : (s.extract j (j + 1)).size = 1 := by rw [ByteArray.size_extract]; omega
  refine ⟨?_, h1⟩
  apply List.ext_getElem
  · have : (s.extract j (j + 1)).data.toList.length = (s.extract j (j + 1)).size := rfl
    rw [this, h1]; rfl
  · intro i hi1 hi2
    have hi : i = 0 := by simpa using hi2
    subst hi
    simp
    rfl
theorem flagT_one (s : ByteArray) (j : Nat) (h : j < s.size) : flagT (s.extract j (j + 1)) = (decide ((65 : Int) ≤ s[j].toNat) && decide ((s[j].toNat : Int) ≤ 90)) := by
  unfold flagT inr
  rw [(extract_one s j h).1, (extract_one s j h).2]
  simp
set_option maxHeartbeats 1000000 in
theorem implEntryOk_any (st fl : ByteArray) (w : World) (h1 : st.size ≤ maxLen) (h2 : fl.size ≤ maxLen) :
    Calls Try.prog 29 #[.agg #[.string st, .string fl]] w fun e w' => e = .returned (.bool (entT st fl)) ∧ Below w.heap.size w w' := by
  cases hw : wok st with
  | false =>
    have HE : Hid (entT st fl = false) := show entT st fl = false by simp [entT, hw]
    go_enter Try.func29, Try.ntmps29
    go_wp2_with (go_at_call 13; refine (wordOk_any _ _ h1).mono ?_; rintro e w' ⟨rfl, rfl⟩; rw [hw])
    go_ret
    rw [HE.out]
    exact ⟨rfl, (Below.refl _ _).alloc (Nat.le_refl _) _⟩
  | true =>
    have HE : Hid (entT st fl = flagsT fl) := show entT st fl = flagsT fl by simp [entT, hw]
    go_enter Try.func29, Try.ntmps29
    go_wp2_with (first | (go_at_call 13; refine (wordOk_any _ _ h1).mono ?_; rintro e w' ⟨rfl, rfl⟩; rw [hw]) | (go_at_call 49; refine (flagsOk_any _ _ h2).mono ?_; rintro e w' ⟨rfl, n, rfl⟩))
    go_ret
    rw [HE.out]
    exact ⟨rfl, below_drewN ((Below.refl _ _).alloc (Nat.le_refl _) _) _⟩
theorem flagsT_bad (s : ByteArray) (h : ¬ (s.size : Int) ≤ 4 ∨ inr 65 90 s.data.toList = false ∨ ascT s s.size = false) : flagsT s = false := by
  unfold flagsT
  rcases h with h | h | h <;> simp [h]
set_option maxHeartbeats 2000000 in
theorem l2Entry_any (st fl : ByteArray) (w : World) (h1 : st.size ≤ maxLen) (h2 : fl.size ≤ maxLen) :
    Calls Try.prog 33 #[.agg #[.string st, .string fl]] w fun e w' => e = .returned (.bool (entT st fl)) ∧ Below w.heap.size w w' := by
  have HN : Hid (fl.size ≤ maxLen) := h2
  unfold maxLen at h2
  go_enter Try.func33, Try.ntmps33
  go_wp2_with fail
  go_loopw [3] (fun i wr => ∃ k n : Nat, i = .int .i64 (k : Int) ∧ k ≤ fl.size ∧ inr 65 90 (fl.data.toList.take k) = true ∧ ascT fl k = true ∧ wr = (w.alloc (.cells #[.string st, .string fl] 25)).drewN n) (fun i _ => fl.size - (intOf i).toNat)
  case atStart => exact ⟨0, 0, rfl, Nat.zero_le _, rfl, ascT_small fl 0 (by omega), rfl⟩
  case round =>
    obtain ⟨k, n, rfl, hk, hr, ha, rfl⟩ := hrel
    have HR : Hid (inr 65 90 (fl.data.toList.take k) = true) := hr
    have HA : Hid (ascT fl k = true) := ha
    clear hr ha
    by_cases hlt : k < fl.size
    · have hlt1 : k + 1 ≤ fl.size := hlt
      have hli : (k : Int) < (fl.size : Int) := by omega
      have hli1 : (k : Int) + 1 ≤ (fl.size : Int) := by omega
      have HM : Hid ((fl.extract k (k + 1)).size ≤ maxLen) := show (fl.extract k (k + 1)).size ≤ maxLen by rw [(extract_one fl k hlt).2]; unfold maxLen; omega
      have hf1 := flagT_one fl k hlt
      cases hf : flagT (fl.extract k (k + 1)) with
      | false =>
        have HE : Hid (entT st fl = false) := show entT st fl = false by
          unfold entT
          rw [flagsT_bad fl (.inr (.inl (inr_bad 65 90 fl k hlt (by rw [hf] at hf1; simp at hf1; omega))))]
          simp
        clear hf1
        go_wp2_with fail
        go_quiet ((first | (go_at_call 54; refine (l2Flag_any _ _ HM.out).mono ?_; rintro e w'' ⟨rfl, rfl⟩; rw [hf]; exact ⟨rfl, _, rfl⟩)))
        go_wp2_with fail
        go_ret
        rw [HE.out]
        exact ⟨rfl, below_drewN (below_drewN ((Below.refl _ _).alloc (Nat.le_refl _) _) _) _⟩
      | true =>
        have HR' : Hid (inr 65 90 (fl.data.toList.take (k + 1)) = true) := show inr 65 90 (fl.data.toList.take (k + 1)) = true by
          rw [inr_take_succ 65 90 fl k hlt, HR.out, ← hf1, hf]; rfl
        clear hf1
        by_cases hk0 : k = 0
        · subst hk0
          go_wp2_with fail
          go_quiet ((first | (go_at_call 54; refine (l2Flag_any _ _ HM.out).mono ?_; rintro e w'' ⟨rfl, rfl⟩; rw [hf]; exact ⟨rfl, _, rfl⟩)))
          go_wp2_with fail
          go_roundw
          case rel => exact ⟨1, _, by go_num, by omega, HR'.out, ascT_small fl 1 (by omega), rfl⟩
          case measure => simp [intOf]; omega
        · obtain ⟨j, hj⟩ : ∃ j : Nat, k = j + 1 := ⟨k - 1, by omega⟩
          have hlt0 : j < fl.size := by omega
          have hi0 : (j : Int) < (fl.size : Int) := by omega
          have hk1 : (0 : Int) < (k : Int) := by omega
          have hk2 : 0 < k := by omega
          have hk3 : ¬ k = 0 := by omega
          have r1 : IntKind.i64.wrap ((k : Int) - 1) = (j : Int) := by rw [IntWalk.i64_in _ (by omega)]; omega
          have r2 : IntKind.i64.wrap ((k : Int) + 1) = (k : Int) + 1 := IntWalk.i64_in _ (by omega)
          have HB0 := bt_get fl j hlt0
          have HB1 := bt_get fl k hlt
          by_cases hge : fl[k].toNat ≤ fl[j].toNat
          · have HX : Hid (ascT fl fl.size = false) := ascT_bad fl j fl.size (by omega) (by rw [← hj, HB0, HB1]; omega)
            have HE : Hid (entT st fl = false) := show entT st fl = false by
              unfold entT
              rw [flagsT_bad fl (.inr (.inr HX.out))]
              simp
            clear HB0 HB1 hj
            go_wp2_with fail
            go_quiet ((first | (go_at_call 54; refine (l2Flag_any _ _ HM.out).mono ?_; rintro e w'' ⟨rfl, rfl⟩; rw [hf]; exact ⟨rfl, _, rfl⟩)))
            go_wp2_with fail
            go_ret
            rw [HE.out]
            exact ⟨rfl, below_drewN (below_drewN ((Below.refl _ _).alloc (Nat.le_refl _) _) _) _⟩
          · have HX : Hid (ascT fl (k + 1) = true) := show ascT fl (k + 1) = true by
              have hk2 : ascT fl (j + 2) = (ascT fl (j + 1) && decide (bt fl j < bt fl (j + 1))) := ascT_succ fl j
              rw [show k + 1 = j + 2 by omega, hk2, ← hj, HA.out, HB0, HB1]; simp; omega
            clear HB0 HB1 hj
            go_wp2_with fail
            go_quiet ((first | (go_at_call 54; refine (l2Flag_any _ _ HM.out).mono ?_; rintro e w'' ⟨rfl, rfl⟩; rw [hf]; exact ⟨rfl, _, rfl⟩)))
            go_wp2_with fail
            go_roundw
            case rel => exact ⟨k + 1, _, by go_num, by omega, HR'.out, HX.out, rfl⟩
            case measure => simp [intOf]; omega
    · have hke : k = fl.size := by omega
      have HR2 : Hid (inr 65 90 fl.data.toList = true) := show inr 65 90 fl.data.toList = true by rw [← inr_all 65 90 fl k (by omega), HR.out]
      have HA2 : Hid (ascT fl fl.size = true) := show ascT fl fl.size = true by rw [← hke]; exact HA.out
      have HE : Hid (entT st fl = (wok st && decide ((fl.size : Int) ≤ 4))) := show entT st fl = (wok st && decide ((fl.size : Int) ≤ 4)) by
        unfold entT flagsT; rw [HR2.out, HA2.out]; simp
      clear hke
      cases hw : wok st with
      | false =>
        go_wp2_with (go_at_call 55; refine (l1Word_any _ _ h1).mono ?_; rintro e w' ⟨rfl, rfl⟩; rw [hw])
        go_ret
        rw [HE.out, hw]
        exact ⟨rfl, below_drewN ((Below.refl _ _).alloc (Nat.le_refl _) _) _⟩
      | true =>
        go_wp2_with (go_at_call 55; refine (l1Word_any _ _ h1).mono ?_; rintro e w' ⟨rfl, rfl⟩; rw [hw])
        go_ret
        rw [HE.out, hw]
        exact ⟨rfl, below_drewN ((Below.refl _ _).alloc (Nat.le_refl _) _) _⟩
end Go.Proofs.Ythikcililececaa
