/-
  (impl.State).ahead, impl.MachineRank.
-/
import Derived.Test.YtlpcmikljhoabaaW55
import Derived.Test.YtlpcmikljhoabaaM23
import Derived.Deep.RegionWith
namespace Go.Proofs.Ytlpcmikljhoabaa
open Go.RowKit
set_option linter.unusedVariables false
set_option maxHeartbeats 2000000 in
theorem ahead_any (w : World) (b : Bool) (v : Value) (es : List (Int × Int)) (c : Nat) (first : Int) (n g : Nat) (D : Nat → Int) (h : EdgesIn 0 w v es) (hok : edsOk first n es = true) (hf0 : 0 ≤ first) (hn : n ≤ 400) (hc8 : c ≤ 255)
    (hrow : w.rowIs g 3 n (tabRow D)) (hD : ∀ j, 0 ≤ D j ∧ D j ≤ 1000000000) :
    Calls Try.prog 30 #[.agg #[.bool b, v], .int .u8 c, .slice (some ⟨g, 0, none⟩) n n] w fun e w' => e = .returned (.int .i64 (sumT D es c (cntZ b))) ∧ Below w.heap.size w w' := by
  obtain ⟨a, cap, rfl, hc, hm⟩ := h.form
  have HS : Hid (EdgesIn 0 w (.slice a es.length cap) es) := h
  have HO : Hid (edsOk first n es = true) := hok
  have HW : Hid (w.rowIs g 3 n (tabRow D)) := hrow
  have HD : Hid (∀ j, 0 ≤ D j ∧ D j ≤ 1000000000) := hD
  have hl26 := eds_len hok
  clear h hok hrow hD
  unfold maxLen at hm
  cases b with
  | true =>
    go_enter Try.func30, Try.ntmps30
    go_wp2
    go_loopw [7, 15] (fun x i wr => ∃ (k : Nat), k ≤ es.length ∧ i = .int .i64 k ∧ x = .int .i64 (sumT D (es.take k) c (cntZ true)) ∧ Below w.heap.size w wr) (fun _ i _ => es.length - (intOf i).toNat)
    case atStart => exact ⟨0, Nat.zero_le _, rfl, rfl, (Below.refl _ _).alloc (Nat.le_refl _) _⟩
    case round =>
      obtain ⟨k, hk, rfl, rfl, hb⟩ := hrel
      have HB : Hid (Below w.heap.size w wr) := hb
      clear hb
      by_cases hlt : k < es.length
      · obtain ⟨b', off, cap', e, hv, _, _, hbl, he, c1, c2⟩ := (HS.out.below HB.out).at hlt
        cases hv
        have hb1 := edsOk_at HO.out he
        have HT := sumT_take (D := D) (c := (c : Int)) (z := cntZ true) he
        have HX : Hid (sumT D (es.take (k + 1)) c (cntZ true) = if e.1 < (c : Int) then sumT D (es.take k) c (cntZ true) + D e.2.toNat else sumT D (es.take k) c (cntZ true)) := HT
        have hbd := sumT_bound HD.out c (es.take k) (cntZ true)
        have hz := cntZ_bound true
        have hlk : (es.take k).length ≤ 26 := by have := List.length_take_le k es; omega
        obtain ⟨l, t⟩ := e
        simp only at c1 c2 hb1
        obtain ⟨t, rfl⟩ : ∃ t' : Nat, t = t' := ⟨t.toNat, by omega⟩
        have d2 : wr.cell? ⟨g, t, none⟩ = some (.int .i64 (D t)) := (HB.out.cell (p := ⟨g, t, none⟩) HW.out.lt).trans (HW.out.cell (i := t) (by omega))
        have hg : g < wr.heap.size := Nat.lt_of_lt_of_le HW.out.lt HB.out.size
        have hdt := HD.out t
        have htn : t < n := by omega
        have hacc : 0 ≤ sumT D (es.take k) c (cntZ true) ∧ sumT D (es.take k) c (cntZ true) ≤ 26000000001 := by omega
        generalize hac : sumT D (es.take k) c (cntZ true) = acc at *
        clear he HT hbd hz hlk hac
        by_cases hlc : l < (c : Int)
        · have HY : Hid (sumT D (es.take (k + 1)) c (cntZ true) = acc + D t) := by
            have := HX.out
            simp only [if_pos hlc, Int.toNat_natCast] at this
            exact this
          go_wp2
          go_roundw
          case rel => exact ⟨k + 1, by omega, by go_num, by rw [HY.out], HB.out.alloc HB.out.size _⟩
          case measure => simp [intOf]; omega
        · have HY : Hid (sumT D (es.take (k + 1)) c (cntZ true) = acc) := by
            have := HX.out
            simp only [if_neg hlc] at this
            exact this
          go_wp2
          go_roundw
          case rel => exact ⟨k + 1, by omega, by go_num, by rw [HY.out], HB.out.alloc HB.out.size _⟩
          case measure => simp [intOf]; omega
      · have hke : es.take k = es := List.take_of_length_le (by omega)
        rw [hke]
        clear hke
        go_wp2
        go_ret
        exact ⟨rfl, HB.out⟩
  | false =>
    go_enter Try.func30, Try.ntmps30
    go_wp2
    go_loopw [7, 15] (fun x i wr => ∃ (k : Nat), k ≤ es.length ∧ i = .int .i64 k ∧ x = .int .i64 (sumT D (es.take k) c (cntZ false)) ∧ Below w.heap.size w wr) (fun _ i _ => es.length - (intOf i).toNat)
    case atStart => exact ⟨0, Nat.zero_le _, rfl, rfl, (Below.refl _ _).alloc (Nat.le_refl _) _⟩
    case round =>
      obtain ⟨k, hk, rfl, rfl, hb⟩ := hrel
      have HB : Hid (Below w.heap.size w wr) := hb
      clear hb
      by_cases hlt : k < es.length
      · obtain ⟨b', off, cap', e, hv, _, _, hbl, he, c1, c2⟩ := (HS.out.below HB.out).at hlt
        cases hv
        have hb1 := edsOk_at HO.out he
        have HT := sumT_take (D := D) (c := (c : Int)) (z := cntZ false) he
        have HX : Hid (sumT D (es.take (k + 1)) c (cntZ false) = if e.1 < (c : Int) then sumT D (es.take k) c (cntZ false) + D e.2.toNat else sumT D (es.take k) c (cntZ false)) := HT
        have hbd := sumT_bound HD.out c (es.take k) (cntZ false)
        have hz := cntZ_bound false
        have hlk : (es.take k).length ≤ 26 := by have := List.length_take_le k es; omega
        obtain ⟨l, t⟩ := e
        simp only at c1 c2 hb1
        obtain ⟨t, rfl⟩ : ∃ t' : Nat, t = t' := ⟨t.toNat, by omega⟩
        have d2 : wr.cell? ⟨g, t, none⟩ = some (.int .i64 (D t)) := (HB.out.cell (p := ⟨g, t, none⟩) HW.out.lt).trans (HW.out.cell (i := t) (by omega))
        have hg : g < wr.heap.size := Nat.lt_of_lt_of_le HW.out.lt HB.out.size
        have hdt := HD.out t
        have htn : t < n := by omega
        have hacc : 0 ≤ sumT D (es.take k) c (cntZ false) ∧ sumT D (es.take k) c (cntZ false) ≤ 26000000001 := by omega
        generalize hac : sumT D (es.take k) c (cntZ false) = acc at *
        clear he HT hbd hz hlk hac
        by_cases hlc : l < (c : Int)
        · have HY : Hid (sumT D (es.take (k + 1)) c (cntZ false) = acc + D t) := by
            have := HX.out
            simp only [if_pos hlc, Int.toNat_natCast] at this
            exact this
          go_wp2
          go_roundw
          case rel => exact ⟨k + 1, by omega, by go_num, by rw [HY.out], HB.out.alloc HB.out.size _⟩
          case measure => simp [intOf]; omega
        · have HY : Hid (sumT D (es.take (k + 1)) c (cntZ false) = acc) := by
            have := HX.out
            simp only [if_neg hlc] at this
            exact this
          go_wp2
          go_roundw
          case rel => exact ⟨k + 1, by omega, by go_num, by rw [HY.out], HB.out.alloc HB.out.size _⟩
          case measure => simp [intOf]; omega
      · have hke : es.take k = es := List.take_of_length_le (by omega)
        rw [hke]
        clear hke
        go_wp2
        go_ret
        exact ⟨rfl, HB.out⟩
end Go.Proofs.Ytlpcmikljhoabaa
