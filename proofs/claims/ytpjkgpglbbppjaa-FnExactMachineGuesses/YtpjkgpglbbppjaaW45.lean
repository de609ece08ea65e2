/-
  impl.edgesOk.
-/
import Derived.Test.YtpjkgpglbbppjaaW43
import Derived.Deep.QuietTactic
import Derived.BigQuiet
namespace Go.Proofs.Ytpjkgpglbbppjaa
open Go.RowKit
set_option linter.unusedVariables false
theorem below_drewN' {B : Nat} {a w : World} (h : Below B a w) (n : Nat) : Below B a (w.drewN n) := by
  induction n with
  | zero => exact h
  | succ n ih => exact ih.drew
set_option maxHeartbeats 2000000 in
theorem edgesOk_any (w : World) (v : Value) (es : List (Int × Int)) (first last : Int) (h : EdgesIn 0 w v es) :
    Calls Try.prog 31 #[v, .int .i64 first, .int .i64 last] w fun e w' => e = .returned (.bool (edsOk first last es)) ∧ Below w.heap.size w w' := by
  obtain ⟨a, cap, rfl, hc, hm⟩ := h.form
  have HS : Hid (EdgesIn 0 w (.slice a es.length cap) es) := h
  clear h
  unfold maxLen at hm
  go_enter Try.func31, Try.ntmps31
  go_wp2
  go_loopw [11] (fun i wr => ∃ (k : Nat), k ≤ es.length ∧ i = .int .i64 k ∧ (∀ j, j < k → edOk first last es j = true) ∧ Below w.heap.size w wr) (fun i _ => es.length - (intOf i).toNat)
  case atStart => exact ⟨0, Nat.zero_le _, rfl, fun j hj => absurd hj (by omega), Below.refl _ _⟩
  case round =>
    obtain ⟨k, hk, rfl, hall, hb⟩ := hrel
    have HA : Hid (∀ j, j < k → edOk first last es j = true) := hall
    have HB : Hid (Below w.heap.size w wr) := hb
    clear hall hb
    by_cases hlt : k < es.length
    · obtain ⟨b, off, cap', s, hv, _, _, hbl, hs, c1, c2⟩ := (HS.out.below HB.out).at hlt
      cases hv
      have HX : Hid (es[k]? = some s) := hs
      obtain ⟨l, t⟩ := s
      simp only at c1 c2
      clear hs
      have HR : Hid (∀ n : Nat, edOk first last es k = true → (∀ j, j < k + 1 → edOk first last es j = true) ∧ Below w.heap.size w ((wr.alloc (.cells #[.int .i64 l, .int .i64 t] 51)).drewN n)) := by
        intro n hok
        refine ⟨fun j hj => ?_, below_drewN' (HB.out.alloc HB.out.size _) _⟩
        by_cases e : j = k
        · rw [e]; exact hok
        · exact HA.out j (by omega)
      have HF : Hid (∀ n : Nat, edOk first last es k = false → edsOk first last es = false ∧ Below w.heap.size w ((wr.alloc (.cells #[.int .i64 l, .int .i64 t] 51)).drewN n)) := by
        intro n hok
        exact ⟨edsOk_false k hlt hok, below_drewN' (HB.out.alloc HB.out.size _) _⟩
      by_cases h1 : l < 97
      · have HK : Hid (edOk first last es k = false) := by
          show edOk first last es k = false
          simp only [edOk, HX.out]
          simp; omega
        go_wp2_with fail
        go_quiet (fail)
        go_wp2
        go_ret
        obtain ⟨e1, e2⟩ := HF.out _ HK.out
        rw [e1]
        exact ⟨rfl, e2⟩
      have d1 : decide (l < 97) = false := by simpa using h1
      by_cases h2 : 122 < l
      · have HK : Hid (edOk first last es k = false) := by
          show edOk first last es k = false
          simp only [edOk, HX.out]
          simp; omega
        go_wp2_with fail
        go_quiet (fail)
        go_wp2
        go_ret
        obtain ⟨e1, e2⟩ := HF.out _ HK.out
        rw [e1]
        exact ⟨rfl, e2⟩
      have d2 : decide (122 < l) = false := by simpa using h2
      have d2' : decide (l > 122) = false := by simpa using h2
      by_cases hk0 : k = 0
      · have HY : Hid (es[0]? = some (l, t)) := show es[0]? = some (l, t) by rw [← hk0]; exact HX.out
        subst hk0
        simp only [Nat.zero_mul, Nat.add_zero] at c1 c2
        by_cases h3 : t < first
        · have HK : Hid (edOk first last es 0 = false) := by
            show edOk first last es 0 = false
            rw [edOk_zero HY.out]
            simp; omega
          go_wp2_with fail
          go_quiet (fail)
          go_wp2
          go_ret
          obtain ⟨e1, e2⟩ := HF.out _ HK.out
          rw [e1]
          exact ⟨rfl, e2⟩
        have d3 : decide (t < first) = false := by simpa using h3
        by_cases h4 : last ≤ t
        · have HK : Hid (edOk first last es 0 = false) := by
            show edOk first last es 0 = false
            rw [edOk_zero HY.out]
            simp; omega
          go_wp2_with fail
          go_quiet (fail)
          go_wp2
          go_ret
          obtain ⟨e1, e2⟩ := HF.out _ HK.out
          rw [e1]
          exact ⟨rfl, e2⟩
        have d4 : decide (last ≤ t) = false := by simpa using h4
        have d4' : decide (t ≥ last) = false := by simpa using h4
        have HK : Hid (edOk first last es 0 = true) := by
          show edOk first last es 0 = true
          rw [edOk_zero HY.out]
          simp; omega
        go_wp2_with fail
        go_quiet (fail)
        go_wp2
        go_roundw
        case rel =>
          obtain ⟨e1, e2⟩ := HR.out _ HK.out
          exact ⟨1, by omega, by go_num, e1, e2⟩
        case measure => simp [intOf]; omega
      · obtain ⟨j, hj⟩ : ∃ j : Nat, k = j + 1 := ⟨k - 1, by omega⟩
        have hlt0 : j < es.length := by omega
        have hi0 : (j : Int) < (es.length : Int) := by omega
        have hk1 : (0 : Int) < (k : Int) := by omega
        have hk2 : 0 < k := by omega
        have r1 : IntKind.i64.wrap ((k : Int) - 1) = (j : Int) := by rw [IntWalk.i64_in _ (by omega)]; omega
        obtain ⟨b1, off1, cap1, p, hv, _, _, _, hp, c3, _⟩ := (HS.out.below HB.out).at hlt0
        cases hv
        have HP : Hid (es[j]? = some p) := hp
        have HX' : Hid (es[j + 1]? = some (l, t)) := show es[j + 1]? = some (l, t) by rw [← hj]; exact HX.out
        obtain ⟨q, q'⟩ := p
        simp only at c3
        have HJ : Hid (k = j + 1) := hj
        clear hp hj
        by_cases h5 : l ≤ q
        · have HK : Hid (edOk first last es k = false) := by
            show edOk first last es k = false
            rw [HJ.out, edOk_succ HP.out HX'.out]
            simp; omega
          go_wp2_with fail
          go_quiet (fail)
          go_wp2
          go_ret
          obtain ⟨e1, e2⟩ := HF.out _ HK.out
          rw [e1]
          exact ⟨rfl, e2⟩
        have d5 : decide (l ≤ q) = false := by simpa using h5
        have d5' : decide (q ≥ l) = false := by simpa using h5
        by_cases h3 : t < first
        · have HK : Hid (edOk first last es k = false) := by
            show edOk first last es k = false
            rw [HJ.out, edOk_succ HP.out HX'.out]
            simp; omega
          go_wp2_with fail
          go_quiet (fail)
          go_wp2
          go_ret
          obtain ⟨e1, e2⟩ := HF.out _ HK.out
          rw [e1]
          exact ⟨rfl, e2⟩
        have d3 : decide (t < first) = false := by simpa using h3
        by_cases h4 : last ≤ t
        · have HK : Hid (edOk first last es k = false) := by
            show edOk first last es k = false
            rw [HJ.out, edOk_succ HP.out HX'.out]
            simp; omega
          go_wp2_with fail
          go_quiet (fail)
          go_wp2
          go_ret
          obtain ⟨e1, e2⟩ := HF.out _ HK.out
          rw [e1]
          exact ⟨rfl, e2⟩
        have d4 : decide (last ≤ t) = false := by simpa using h4
        have d4' : decide (t ≥ last) = false := by simpa using h4
        have HK : Hid (edOk first last es k = true) := by
          show edOk first last es k = true
          rw [HJ.out, edOk_succ HP.out HX'.out]
          simp; omega
        go_wp2_with fail
        go_quiet (fail)
        go_wp2
        go_roundw
        case rel =>
          obtain ⟨e1, e2⟩ := HR.out _ HK.out
          exact ⟨k + 1, by omega, by go_num, e1, e2⟩
        case measure => simp [intOf]; omega
    · have HE : Hid (edsOk first last es = true) := edsOk_true (fun j hj => HA.out j (by omega))
      go_wp2
      go_ret
      rw [HE.out]
      exact ⟨rfl, HB.out⟩
end Go.Proofs.Ytpjkgpglbbppjaa
