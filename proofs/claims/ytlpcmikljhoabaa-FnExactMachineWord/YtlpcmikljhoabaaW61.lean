/-
  (impl.State).toward.
-/
import Derived.Test.YtlpcmikljhoabaaW57
import Derived.Test.YtlpcmikljhoabaaM24
namespace Go.Proofs.Ytlpcmikljhoabaa
open Go.RowKit
set_option linter.unusedVariables false
/-- The letter so far. -/
def lettT (es : List (Int × Int)) (i : Nat) : Nat → Int
  | 0 => 0
  | k + 1 => (es.getD (min k i) (0, 0)).1
set_option maxHeartbeats 2000000 in
theorem toward_any (w : World) (b : Bool) (v : Value) (es : List (Int × Int)) (r : Int) (first : Int) (n g i l t : Nat) (D : Nat → Int) (h : EdgesIn 0 w v es) (hok : edsOk first n es = true) (hf0 : 0 ≤ first) (hn : n ≤ 400)
    (hrow : w.rowIs g 3 n (tabRow D)) (hD : ∀ j, 0 ≤ D j ∧ D j ≤ 1000000000) (hi : es[i]? = some ((l : Int), (t : Int)))
    (hle : cntZ b + sumD D (es.take i) ≤ r) (hlt : r < cntZ b + sumD D (es.take i) + D t) :
    Calls Try.prog 32 #[.agg #[.bool b, v], .int .i64 r, .slice (some ⟨g, 0, none⟩) n n] w fun e w' => e = .returned (.int .u8 l) ∧ Below w.heap.size w w' := by
  obtain ⟨a, cap, rfl, hc, hm⟩ := h.form
  have HS : Hid (EdgesIn 0 w (.slice a es.length cap) es) := h
  have HO : Hid (edsOk first n es = true) := hok
  have HW : Hid (w.rowIs g 3 n (tabRow D)) := hrow
  have HD : Hid (∀ j, 0 ≤ D j ∧ D j ≤ 1000000000) := hD
  have HI : Hid (es[i]? = some ((l : Int), (t : Int))) := hi
  have HL1 : Hid (cntZ b + sumD D (es.take i) ≤ r) := hle
  have HL2 : Hid (r < cntZ b + sumD D (es.take i) + D t) := hlt
  have hil : i < es.length := (List.getElem?_eq_some_iff.1 hi).1
  clear h hok hrow hD hi hle hlt
  unfold maxLen at hm
  go_enter Try.func32, Try.ntmps32
  go_wp2
  go_loopw [7, 13] (fun x i_ wr => ∃ (k : Nat), k ≤ es.length ∧ i_ = .int .i64 k ∧ x = .int .u8 (lettT es i k) ∧ wr.cell? ⟨w.heap.size, 0, none⟩ = some (.bool b) ∧ wr.cell? ⟨w.heap.size, 1, none⟩ = some (.slice a es.length cap) ∧ w.heap.size < wr.heap.size ∧ Below w.heap.size w wr) (fun _ i_ _ => es.length - (intOf i_).toNat)
  case atStart => exact ⟨0, Nat.zero_le _, rfl, rfl, by simp [go_sem], by simp [go_sem], by simp, (Below.refl _ _).alloc (Nat.le_refl _) _⟩
  case round =>
    obtain ⟨k, hk, rfl, rfl, s0, s1, s2, hb⟩ := hrel
    have HB : Hid (Below w.heap.size w wr) := hb
    clear hb
    by_cases hlt : k < es.length
    · obtain ⟨b', off, cap', e, hv, _, _, hbl, he, c1, c2⟩ := (HS.out.below HB.out).at hlt
      cases hv
      have hb1 := edsOk_at HO.out he
      have HSL : Hid (sumT D es e.1 (cntZ b) = cntZ b + sumD D (es.take k)) := sumT_letter HO.out he D (cntZ b)
      have HN : Hid (lettT es i (k + 1) = if k ≤ i then e.1 else lettT es i k) := by
        show (es.getD (min k i) (0, 0)).1 = _
        by_cases hki : k ≤ i
        · rw [if_pos hki, Nat.min_eq_left hki]
          simp [List.getD, he]
        · rw [if_neg hki, Nat.min_eq_right (by omega)]
          obtain ⟨j, rfl⟩ : ∃ j, k = j + 1 := ⟨k - 1, by omega⟩
          show _ = (es.getD (min j i) (0, 0)).1
          rw [Nat.min_eq_right (by omega)]
      have HC : Hid ((cntZ b + sumD D (es.take k) ≤ r) ↔ k ≤ i) := by
        show (cntZ b + sumD D (es.take k) ≤ r) ↔ k ≤ i
        constructor
        · intro hh
          rcases Nat.lt_or_ge i k with hik | hik
          · have h1 := sumD_take_mono HD.out es (i := i + 1) (j := k) hik
            have h2 := sumD_take_succ (D := D) HI.out
            simp only [Int.toNat_natCast] at h2
            have := HL2.out
            omega
          · exact hik
        · intro hki
          have h1 := sumD_take_mono HD.out es (i := k) (j := i) hki
          have := HL1.out
          omega
      obtain ⟨el, et⟩ := e
      simp only at c1 c2 hb1 HSL HN
      obtain ⟨el, rfl⟩ : ∃ l' : Nat, el = l' := ⟨el.toNat, by omega⟩
      have hw8 : IntKind.u8.wrap (el : Int) = (el : Int) := by simp [IntKind.wrap, IntKind.bits, IntKind.signed]; omega
      have he8 : el ≤ 255 := by omega
      clear he
      go_wp2_with fail
      refine (ahead_any _ _ _ es _ _ _ _ _ (HS.out.below ?b1) HO.out hf0 hn he8 (rowIs_below HW.out ?b1) HD.out).mono ?_
      case b1 => exact HB.out.alloc HB.out.size _
      rintro e w' ⟨rfl, hb'⟩
      rw [HSL.out]
      obtain ⟨hcl, hfz⟩ := bcell2 hb'
      have hz := hb'.size
      simp at hz
      have HB' : Hid (Below w.heap.size w w') := (HB.out.alloc HB.out.size _).trans (hb'.mono (by have := HB.out.size; simp; omega))
      have s0' : w'.cell? ⟨w.heap.size, 0, none⟩ = some (.bool b) := by rw [hcl _ _ (by simp; omega), World.cell?_alloc_past _ _ _ s2]; exact s0
      have s1' : w'.cell? ⟨w.heap.size, 1, none⟩ = some (.slice (some ⟨b', off, none⟩) es.length cap) := by rw [hcl _ _ (by simp; omega), World.cell?_alloc_past _ _ _ s2]; exact s1
      have e1' : w'.cell? ⟨wr.heap.size, 0, none⟩ = some (.int .i64 el) := by rw [hcl _ _ (by simp)]; simp [go_sem]
      have s2' : w.heap.size < w'.heap.size := by omega
      have s3' : wr.heap.size < w'.heap.size := by omega
      clear hcl hfz hb' c1 c2 s0 s1
      by_cases hcmp : cntZ b + sumD D (es.take k) ≤ r
      · have HK : Hid (lettT es i (k + 1) = el) := by show lettT es i (k + 1) = el; rw [HN.out, if_pos (HC.out.1 hcmp)]
        go_wp2
        go_roundw
        case rel => exact ⟨k + 1, by omega, by go_num, by rw [HK.out], s0', s1', s2', HB'.out⟩
        case measure => simp [intOf]; omega
      · have HK : Hid (lettT es i (k + 1) = lettT es i k) := by show lettT es i (k + 1) = lettT es i k; rw [HN.out, if_neg (fun h => hcmp (HC.out.2 h))]
        go_wp2
        go_roundw
        case rel => exact ⟨k + 1, by omega, by go_num, by rw [HK.out], s0', s1', s2', HB'.out⟩
        case measure => simp [intOf]; omega
    · have HK : Hid (lettT es i k = l) := by
        show lettT es i k = l
        obtain ⟨j, rfl⟩ : ∃ j, k = j + 1 := ⟨k - 1, by omega⟩
        show (es.getD (min j i) (0, 0)).1 = l
        rw [Nat.min_eq_right (by omega)]
        simp [List.getD, HI.out]
      rw [HK.out]
      go_wp2
      go_ret
      exact ⟨rfl, HB.out⟩
end Go.Proofs.Ytlpcmikljhoabaa
