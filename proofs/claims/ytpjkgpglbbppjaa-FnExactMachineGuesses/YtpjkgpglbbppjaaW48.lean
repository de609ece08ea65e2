/-
  impl.MachineOk.
-/
import Derived.Test.YtpjkgpglbbppjaaW47
namespace Go.Proofs.Ytpjkgpglbbppjaa
open Go.RowKit
set_option linter.unusedVariables false
theorem machT_short {ss : List Sta} (h : ¬ (1 ≤ ss.length ∧ ss.length ≤ 400)) : machT ss = false := by
  unfold machT
  by_cases h1 : 1 ≤ ss.length
  · have h2 : ¬ ss.length ≤ 400 := fun h2 => h ⟨h1, h2⟩
    simp [h2]
  · simp [h1]
theorem machT_bad {ss : List Sta} {i : Nat} {s : Sta} (hs : ss[i]? = some s) (h : staOk ss.length i s = false) : machT ss = false := by
  unfold machT
  rw [stasOk_false hs h]
  simp
theorem machT_all {ss : List Sta} (h1 : 1 ≤ ss.length) (h4 : ss.length ≤ 400) (h : stasOk ss = true) : machT ss = decide (tab deepF deepZ ss ss.length 0 ≤ 12) := by
  unfold machT
  simp [h1, h4, h]
theorem staOk_zero {n : Nat} {s : Sta} : staOk n 0 s = edsOk 1 n s.es := by simp [staOk]
theorem staOk_pos {n i : Nat} {s : Sta} (hi : 0 < i) : staOk n i s = (edsOk (i + 1) n s.es && !(!s.ends && s.es.isEmpty)) := by simp [staOk, hi]
set_option maxHeartbeats 2000000 in
theorem implMachineOk_any (w : World) (v : Value) (ss : List Sta) (h : StatesAt w v ss) :
    Calls Try.prog 19 #[v] w fun e w' => e = .returned (.bool (machT ss)) ∧ Below w.heap.size w w' := by
  obtain ⟨a, cap, rfl, hc, hm⟩ := h.form
  have HS : Hid (StatesAt w (.slice a ss.length cap) ss) := h
  clear h
  unfold maxLen at hm
  by_cases hsh : 1 ≤ ss.length ∧ ss.length ≤ 400
  · obtain ⟨h1, h4⟩ := hsh
    have h1' : ¬ ((ss.length : Int) < 1) := by omega
    have h4' : ¬ ((ss.length : Int) > 400) := by omega
    go_enter Try.func19, Try.ntmps19
    go_wp2
    go_loopw [15] (fun i wr => ∃ (k : Nat), k ≤ ss.length ∧ i = .int .i64 k ∧ (∀ (j : Nat) (s : Sta), j < k → ss[j]? = some s → staOk ss.length j s = true) ∧ Below w.heap.size w wr) (fun i _ => ss.length - (intOf i).toNat)
    case atStart => exact ⟨0, Nat.zero_le _, rfl, fun j s hj => absurd hj (by omega), Below.refl _ _⟩
    case round =>
      obtain ⟨k, hk, rfl, hall, hb⟩ := hrel
      have HA : Hid (∀ (j : Nat) (s : Sta), j < k → ss[j]? = some s → staOk ss.length j s = true) := hall
      have HB : Hid (Below w.heap.size w wr) := hb
      clear hall hb
      by_cases hlt : k < ss.length
      · obtain ⟨b, off, cap', s, ev, hv, _, _, hbl, hs, c1, c2, hev⟩ := (HS.out.below HB.out).at hlt
        cases hv
        obtain ⟨ea, ecap, rfl, hec, hem⟩ := hev.form
        have HX : Hid (ss[k]? = some s) := hs
        have HE : Hid (EdgesIn 0 wr (.slice ea s.es.length ecap) s.es) := hev
        clear hs hev
        unfold maxLen at hem
        have HG : Hid (staOk ss.length k s = true → ∀ (j : Nat) (x : Sta), j < k + 1 → ss[j]? = some x → staOk ss.length j x = true) := by
          intro hg j x hj hx
          by_cases e : j = k
          · subst e
            rw [HX.out] at hx
            cases hx
            exact hg
          · exact HA.out j x (by omega) hx
        go_wp2_with fail
        refine (edgesOk_any _ _ s.es _ _ (HE.out.below ((Below.refl _ _).alloc (Nat.le_refl _) _))).mono ?_
        rintro e w' ⟨rfl, hb'⟩
        obtain ⟨hcl, hfz⟩ := bcell2 hb'
        have hz := hb'.size
        have HB' : Hid (Below w.heap.size w w') := (HB.out.alloc HB.out.size _).trans (hb'.mono (by have := HB.out.size; simp; omega))
        simp at hz
        clear hb' c1 c2
        cases hed : edsOk ((k : Int) + 1) (ss.length : Int) s.es with
        | false =>
          have HM : Hid (machT ss = false) := machT_bad HX.out (by simp [staOk, hed])
          go_wp2
          go_ret
          rw [HM.out]
          exact ⟨rfl, HB'.out⟩
        | true =>
          by_cases hk0 : k = 0
          · have HK : Hid (staOk ss.length k s = true) := by show staOk ss.length k s = true; rw [staOk, hed]; simp [hk0]
            have hk1 : ¬ ((k : Int) > 0) := by omega
            go_wp2
            go_roundw
            case rel => exact ⟨k + 1, by omega, by go_num, HG.out HK.out, HB'.out⟩
            case measure => simp [intOf]; omega
          · have hk1 : (k : Int) > 0 := by omega
            have hk2 : 0 < k := by omega
            cases hen : s.ends with
            | true =>
              have HK : Hid (staOk ss.length k s = true) := by show staOk ss.length k s = true; simp [staOk, hed, hen]
              go_wp2
              go_roundw
              case rel => exact ⟨k + 1, by omega, by go_num, HG.out HK.out, HB'.out⟩
              case measure => simp [intOf]; omega
            | false =>
              by_cases hl : s.es.length = 0
              · have HM : Hid (machT ss = false) := machT_bad HX.out (by rw [staOk_pos hk2, hen, List.isEmpty_iff_length_eq_zero.2 hl]; simp)
                have hli : (s.es.length : Int) = 0 := by omega
                go_wp2
                go_ret
                rw [HM.out]
                exact ⟨rfl, HB'.out⟩
              · have HK : Hid (staOk ss.length k s = true) := by
                  show staOk ss.length k s = true
                  rw [staOk_pos hk2, hed]
                  have : s.es.isEmpty = false := by cases hh : s.es with | nil => simp [hh] at hl | cons => rfl
                  simp [this]
                have hli : ¬ (s.es.length : Int) = 0 := by omega
                go_wp2
                go_roundw
                case rel => exact ⟨k + 1, by omega, by go_num, HG.out HK.out, HB'.out⟩
                case measure => simp [intOf]; omega
      · have HO : Hid (stasOk ss = true) := stasOk_true (fun i s hs => HA.out i s (by have := (List.getElem?_eq_some_iff.1 hs).1; omega) hs)
        have HM : Hid (machT ss = decide (tab deepF deepZ ss ss.length 0 ≤ 12)) := machT_all h1 h4 HO.out
        go_wp2_with fail
        refine (longestKnown_any _ _ ss (HS.out.below HB.out) HO.out h1 h4).mono ?_
        rintro e w' ⟨rfl, hb'⟩
        have HB' : Hid (Below w.heap.size w w') := HB.out.trans (hb'.mono HB.out.size)
        clear hb'
        go_wp2
        go_ret
        rw [HM.out]
        exact ⟨rfl, HB'.out⟩
  · have HM : Hid (machT ss = false) := machT_short hsh
    by_cases h1 : (ss.length : Int) < 1
    · go_enter Try.func19, Try.ntmps19
      go_wp2
      go_ret
      rw [HM.out]
      exact ⟨rfl, Below.refl _ _⟩
    · have h4 : (ss.length : Int) > 400 := by omega
      clear hsh
      go_enter Try.func19, Try.ntmps19
      go_wp2
      go_ret
      rw [HM.out]
      exact ⟨rfl, Below.refl _ _⟩
end Go.Proofs.Ytpjkgpglbbppjaa
