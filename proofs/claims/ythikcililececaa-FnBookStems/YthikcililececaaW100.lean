/-
  Lists of texts held against each other, and asked for one: mdTexts, mdHas.
-/
import Derived.Test.YthikcililececaaW90
import Derived.Test.YthikcililececaaM4
namespace Go.Proofs.Ythikcililececaa
open Go.RowKit
set_option linter.unusedVariables false
/-- A text is among others. -/
def memT (xs : List ByteArray) (s : ByteArray) : Bool := xs.any fun x => x.toList == s.toList
theorem memT_iff (xs : List ByteArray) (s : ByteArray) : memT xs s = true ↔ s ∈ xs := by
  unfold memT
  rw [List.any_eq_true]
  constructor
  · rintro ⟨x, hx, e⟩
    rw [← toList_inj' (eq_of_beq e)]
    exact hx
  · exact fun h => ⟨s, h, beq_self_eq_true _⟩
theorem memT_true {xs : List ByteArray} {s : ByteArray} (h : s ∈ xs) : memT xs s = true := (memT_iff xs s).2 h
theorem memT_false {xs : List ByteArray} {s : ByteArray} (h : ¬ s ∈ xs) : memT xs s = false := by
  cases e : memT xs s with
  | false => rfl
  | true => exact absurd ((memT_iff xs s).1 e) h
set_option maxHeartbeats 1000000 in
theorem mdTexts_same (w : World) (v u : Value) (xs : List ByteArray) (h : TextsAt w v xs) (h' : TextsAt w u xs) :
    Calls Try.prog 9 #[v, u] w fun e w' => e = .returned (.bool true) ∧ Below w.heap.size w w' := by
  obtain ⟨a, cap, rfl, hc, hm⟩ := h.form
  obtain ⟨a', cap', rfl, hc', hm'⟩ := h'.form
  have HS : Hid (TextsAt w (.slice a xs.length cap) xs) := h
  have HS' : Hid (TextsAt w (.slice a' xs.length cap') xs) := h'
  clear h h'
  unfold maxLen at hm hm'
  go_enter Try.func9, Try.ntmps9
  go_wp2
  go_loopw [5] (fun i wr => ∃ (k : Nat), k ≤ xs.length ∧ i = .int .i64 k ∧ Below w.heap.size w wr) (fun i _ => xs.length - (intOf i).toNat)
  case atStart => exact ⟨0, Nat.zero_le _, rfl, Below.refl _ _⟩
  case round =>
    obtain ⟨k, hk, rfl, hb⟩ := hrel
    have HB : Hid (Below w.heap.size w wr) := hb
    clear hb
    by_cases hlt : k < xs.length
    · obtain ⟨b, off, cap1, s, hv, _, hs, _, c1⟩ := (HS.out.below HB.out).at hlt
      cases hv
      obtain ⟨b', off', cap2, s', hv', _, hs', _, c1'⟩ := (HS'.out.below HB.out).at hlt
      cases hv'
      rw [hs] at hs'
      cases hs'
      clear hs
      go_wp2_with fail
      go_region
      all_goals
        go_wp2
        go_roundw
        case rel => exact ⟨k + 1, by omega, by go_num, HB.out.drew⟩
        case measure => simp [intOf]; omega
    · go_wp2
      go_ret
      exact ⟨rfl, HB.out⟩
set_option maxHeartbeats 1000000 in
theorem mdHas_any (w : World) (v : Value) (xs : List ByteArray) (s : ByteArray) (h : TextsAt w v xs) :
    Calls Try.prog 12 #[v, .string s] w fun e w' => e = .returned (.bool (memT xs s)) ∧ Below w.heap.size w w' := by
  obtain ⟨a, cap, rfl, hc, hm⟩ := h.form
  have HS : Hid (TextsAt w (.slice a xs.length cap) xs) := h
  clear h
  unfold maxLen at hm
  go_enter Try.func12, Try.ntmps12
  go_wp2
  go_loopw [5] (fun i wr => ∃ (k : Nat), k ≤ xs.length ∧ i = .int .i64 k ∧ (∀ j : Nat, j < k → xs[j]? ≠ some s) ∧ Below w.heap.size w wr) (fun i _ => xs.length - (intOf i).toNat)
  case atStart => exact ⟨0, Nat.zero_le _, rfl, fun j hj => absurd hj (by omega), Below.refl _ _⟩
  case round =>
    obtain ⟨k, hk, rfl, hno, hb⟩ := hrel
    have HB : Hid (Below w.heap.size w wr) := hb
    have HN : Hid (∀ j : Nat, j < k → xs[j]? ≠ some s) := hno
    clear hb hno
    by_cases hlt : k < xs.length
    · obtain ⟨b, off, cap1, t, hv, _, hs, _, c1⟩ := (HS.out.below HB.out).at hlt
      cases hv
      have HT : Hid (xs[k]? = some t) := hs
      clear hs
      cases he : (t.toList == s.toList) with
      | true =>
        have hts : t = s := toList_inj' (by simpa using he)
        have HM : Hid (s ∈ xs) := by rw [← hts]; exact List.mem_of_getElem? HT.out
        clear hts
        go_wp2
        go_ret
        exact ⟨(congrArg (fun b => Ending.returned (.bool b)) (memT_true HM.out)).symm, HB.out⟩
      | false =>
        have hts : t ≠ s := by rintro rfl; simp at he
        have HN2 : Hid (∀ j : Nat, j < k + 1 → xs[j]? ≠ some s) := fun j hj => by
          by_cases e : j = k
          · rw [e, HT.out]
            exact fun h => hts (by cases h; rfl)
          · exact HN.out j (by omega)
        clear hts
        go_wp2
        go_roundw
        case rel => exact ⟨k + 1, by omega, by go_num, HN2.out, HB.out⟩
        case measure => simp [intOf]; omega
    · have HM : Hid (¬ s ∈ xs) := fun hm => by
        obtain ⟨j, hj, e⟩ := List.mem_iff_getElem.1 hm
        exact HN.out j (by omega) (by rw [List.getElem?_eq_getElem hj, e])
      go_wp2
      go_ret
      exact ⟨(congrArg (fun b => Ending.returned (.bool b)) (memT_false HM.out)).symm, HB.out⟩
