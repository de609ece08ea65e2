/-
  spec.l1In, spec.MachineOk.
-/
import Derived.Test.YtpjkgpglbbppjaaW48
namespace Go.Proofs.Ytpjkgpglbbppjaa
open Go.RowKit
set_option linter.unusedVariables false
/-- A number lies between two. -/
def inT (n lo hi : Int) : Bool := decide (lo ≤ n) && decide (n ≤ hi)
set_option maxHeartbeats 1000000 in
theorem l1In_any (n lo hi : Int) (w : World) : Calls Try.prog 26 #[.int .i64 n, .int .i64 lo, .int .i64 hi] w fun e w' => e = .returned (.bool (inT n lo hi)) ∧ w' = w := by
  by_cases h1 : lo ≤ n
  · have HI : Hid (inT n lo hi = decide (n ≤ hi)) := show inT n lo hi = decide (n ≤ hi) by simp [inT, h1]
    have h1' : n ≥ lo := h1
    go_enter Try.func26, Try.ntmps26
    go_wp2
    go_ret
    rw [HI.out]
    exact ⟨rfl, rfl⟩
  · have HI : Hid (inT n lo hi = false) := show inT n lo hi = false by simp [inT, h1]
    go_enter Try.func26, Try.ntmps26
    go_wp2
    go_ret
    rw [HI.out]
    exact ⟨rfl, rfl⟩
theorem l1In_is {n lo hi : Int} {b : Bool} (h : inT n lo hi = b) (w : World) : Calls Try.prog 26 #[.int .i64 n, .int .i64 lo, .int .i64 hi] w fun e w' => e = .returned (.bool b) ∧ w' = w := by
  rw [← h]; exact l1In_any n lo hi w
set_option maxRecDepth 100000 in
set_option maxHeartbeats 4000000 in
theorem specMachineOk_any (w : World) (v : Value) (ss : List Sta) (h : StatesAt w v ss) :
    Calls Try.prog 14 #[v] w fun e w' => e = .returned (.bool (machT ss)) ∧ Below w.heap.size w w' := by
  obtain ⟨a, cap, rfl, hc, hm⟩ := h.form
  have HS : Hid (StatesAt w (.slice a ss.length cap) ss) := h
  clear h
  unfold maxLen at hm
  go_enter Try.func14, Try.ntmps14
  go_wp2
  go_loopw [3] (fun i wr => ∃ (p : Nat), p ≤ ss.length ∧ i = .int .i64 p ∧ (∀ (j : Nat) (s : Sta), j < p → ss[j]? = some s → staOk ss.length j s = true) ∧ Below w.heap.size w wr) (fun i _ => ss.length - (intOf i).toNat)
  case atStart => exact ⟨0, Nat.zero_le _, rfl, fun j s hj => absurd hj (by omega), Below.refl _ _⟩
  case round =>
    rename World => wo
    obtain ⟨p, hp, rfl, hall, hb⟩ := hrel
    have HA : Hid (∀ (j : Nat) (s : Sta), j < p → ss[j]? = some s → staOk ss.length j s = true) := hall
    have HB : Hid (Below w.heap.size w wo) := hb
    clear hall hb
    by_cases hplt : p < ss.length
    · obtain ⟨b, off, cap', s, ev, hv, _, _, hbl0, hs, c10, c20, hev⟩ := HS.out.at hplt
      cases hv
      obtain ⟨ea, ecap, rfl, hec, hem⟩ := hev.form
      have HX : Hid (ss[p]? = some s) := hs
      have HE : Hid (EdgesIn 0 w (.slice ea s.es.length ecap) s.es) := hev
      clear hs hev
      unfold maxLen at hem
      go_wp2
      go_loopw [4] (fun i wr => ∃ (k : Nat), k ≤ s.es.length ∧ i = .int .i64 k ∧ (∀ (j : Nat), j < k → edOk ((p : Int) + 1) ss.length s.es j = true) ∧ Below w.heap.size w wr) (fun i _ => s.es.length - (intOf i).toNat)
      case atStart => exact ⟨0, Nat.zero_le _, rfl, fun j hj => absurd hj (by omega), HB.out⟩
      case round =>
        obtain ⟨k, hk, rfl, hall, hb⟩ := hrel
        have HAk : Hid (∀ (j : Nat), j < k → edOk ((p : Int) + 1) ss.length s.es j = true) := hall
        have HBk : Hid (Below w.heap.size w wr) := hb
        have c1 := (HBk.out.cell (p := ⟨b, off + p * 2, none⟩) hbl0).trans c10
        have c2 := (HBk.out.cell (p := ⟨b, off + p * 2 + 1, none⟩) hbl0).trans c20
        have hbl : b < wr.heap.size := Nat.lt_of_lt_of_le hbl0 HBk.out.size
        clear hall hb
        by_cases hlt : k < s.es.length
        · obtain ⟨eb, eoff, ecap', e, hv, _, _, hebl, he, e1, e2⟩ := (HE.out.below HBk.out).at hlt
          cases hv
          have HX2 : Hid (s.es[k]? = some e) := he
          obtain ⟨l, t⟩ := e
          simp only at e1 e2
          clear he
          have HR : Hid (∀ n : Nat, edOk ((p : Int) + 1) ss.length s.es k = true → (∀ j, j < k + 1 → edOk ((p : Int) + 1) ss.length s.es j = true) ∧ Below w.heap.size w ((wr.alloc (.cells #[.int .i64 l, .int .i64 t] 51)).drewN n)) := by
            intro n hok
            refine ⟨fun j hj => ?_, below_drewN' (HBk.out.alloc HBk.out.size _) _⟩
            by_cases e : j = k
            · rw [e]; exact hok
            · exact HAk.out j (by omega)
          have HF : Hid (∀ n : Nat, edOk ((p : Int) + 1) ss.length s.es k = false → machT ss = false ∧ Below w.heap.size w ((wr.alloc (.cells #[.int .i64 l, .int .i64 t] 51)).drewN n)) := by
            intro n hok
            refine ⟨machT_bad HX.out ?_, below_drewN' (HBk.out.alloc HBk.out.size _) _⟩
            rw [staOk, edsOk_false k hlt hok]
            simp
          cases h1 : inT l 97 122 with
          | false =>
            have HK : Hid (edOk ((p : Int) + 1) ss.length s.es k = false) := by
              show edOk _ _ _ _ = false
              simp only [edOk, HX2.out]
              simp [inT] at h1 ⊢
              omega
            go_wp2_with fail
            go_quiet ((first | (go_at_call_of 26 (Value.int .i64 l); refine (l1In_is h1 _).mono ?_; rintro e w'' ⟨rfl, rfl⟩; exact ⟨rfl, _, rfl⟩)))
            go_wp2
            go_ret
            obtain ⟨e1, e2⟩ := HF.out _ HK.out
            rw [e1]
            exact ⟨rfl, e2⟩
          | true =>
            cases h2 : inT t ((p : Int) + 1) ((ss.length : Int) - 1) with
            | false =>
              have HK : Hid (edOk ((p : Int) + 1) ss.length s.es k = false) := by
                show edOk _ _ _ _ = false
                simp only [edOk, HX2.out]
                simp [inT] at h1 h2 ⊢
                omega
              go_wp2_with fail
              go_quiet ((first | (go_at_call_of 26 (Value.int .i64 l); refine (l1In_is h1 _).mono ?_; rintro e w'' ⟨rfl, rfl⟩; exact ⟨rfl, _, rfl⟩) | (go_at_call_of 26 (Value.int .i64 t); refine (l1In_is h2 _).mono ?_; rintro e w'' ⟨rfl, rfl⟩; exact ⟨rfl, _, rfl⟩)))
              go_wp2
              go_ret
              obtain ⟨e1, e2⟩ := HF.out _ HK.out
              rw [e1]
              exact ⟨rfl, e2⟩
            | true =>
              by_cases hk0 : k = 0
              · have HY : Hid (s.es[0]? = some (l, t)) := show s.es[0]? = some (l, t) by rw [← hk0]; exact HX2.out
                subst hk0
                simp only [Nat.zero_mul, Nat.add_zero] at e1 e2
                have HK : Hid (edOk ((p : Int) + 1) ss.length s.es 0 = true) := by
                  show edOk _ _ _ _ = true
                  rw [edOk_zero HY.out]
                  simp [inT] at h1 h2 ⊢
                  omega
                go_wp2_with fail
                go_quiet ((first | (go_at_call_of 26 (Value.int .i64 l); refine (l1In_is h1 _).mono ?_; rintro e w'' ⟨rfl, rfl⟩; exact ⟨rfl, _, rfl⟩) | (go_at_call_of 26 (Value.int .i64 t); refine (l1In_is h2 _).mono ?_; rintro e w'' ⟨rfl, rfl⟩; exact ⟨rfl, _, rfl⟩)))
                go_wp2
                go_roundw
                case rel =>
                  obtain ⟨e1, e2⟩ := HR.out _ HK.out
                  exact ⟨1, by omega, by go_num, e1, e2⟩
                case measure => simp [intOf]; omega
              · obtain ⟨j, hj⟩ : ∃ j : Nat, k = j + 1 := ⟨k - 1, by omega⟩
                have hlt0 : j < s.es.length := by omega
                have hi0 : (j : Int) < (s.es.length : Int) := by omega
                have hk1 : (0 : Int) < (k : Int) := by omega
                have hk2 : 0 < k := by omega
                have r1 : IntKind.i64.wrap ((k : Int) - 1) = (j : Int) := by rw [IntWalk.i64_in _ (by omega)]; omega
                obtain ⟨b1, off1, cap1, q, hv, _, _, _, hq, e3, _⟩ := (HE.out.below HBk.out).at hlt0
                cases hv
                have HP : Hid (s.es[j]? = some q) := hq
                have HX' : Hid (s.es[j + 1]? = some (l, t)) := show s.es[j + 1]? = some (l, t) by rw [← hj]; exact HX2.out
                obtain ⟨q, q'⟩ := q
                simp only at e3
                have HJ : Hid (k = j + 1) := hj
                clear hq hj
                by_cases h5 : l ≤ q
                · have HK : Hid (edOk ((p : Int) + 1) ss.length s.es k = false) := by
                    show edOk _ _ _ _ = false
                    rw [HJ.out, edOk_succ HP.out HX'.out]
                    simp [inT] at h1 h2 ⊢
                    omega
                  go_wp2_with fail
                  go_quiet ((first | (go_at_call_of 26 (Value.int .i64 l); refine (l1In_is h1 _).mono ?_; rintro e w'' ⟨rfl, rfl⟩; exact ⟨rfl, _, rfl⟩) | (go_at_call_of 26 (Value.int .i64 t); refine (l1In_is h2 _).mono ?_; rintro e w'' ⟨rfl, rfl⟩; exact ⟨rfl, _, rfl⟩)))
                  go_wp2
                  go_ret
                  obtain ⟨e1, e2⟩ := HF.out _ HK.out
                  rw [e1]
                  exact ⟨rfl, e2⟩
                have d5 : decide (l ≤ q) = false := by simpa using h5
                have d5' : decide (q ≥ l) = false := by simpa using h5
                have HK : Hid (edOk ((p : Int) + 1) ss.length s.es k = true) := by
                  show edOk _ _ _ _ = true
                  rw [HJ.out, edOk_succ HP.out HX'.out]
                  simp [inT] at h1 h2 ⊢
                  omega
                go_wp2_with fail
                go_quiet ((first | (go_at_call_of 26 (Value.int .i64 l); refine (l1In_is h1 _).mono ?_; rintro e w'' ⟨rfl, rfl⟩; exact ⟨rfl, _, rfl⟩) | (go_at_call_of 26 (Value.int .i64 t); refine (l1In_is h2 _).mono ?_; rintro e w'' ⟨rfl, rfl⟩; exact ⟨rfl, _, rfl⟩)))
                go_wp2
                go_roundw
                case rel =>
                  obtain ⟨e1, e2⟩ := HR.out _ HK.out
                  exact ⟨k + 1, by omega, by go_num, e1, e2⟩
                case measure => simp [intOf]; omega
        · have HO : Hid (edsOk ((p : Int) + 1) ss.length s.es = true) := edsOk_true (fun j hj => HAk.out j (by omega))
          have HG : Hid (staOk ss.length p s = true → ∀ (j : Nat) (x : Sta), j < p + 1 → ss[j]? = some x → staOk ss.length j x = true) := by
            intro hg j x hj hx
            by_cases e : j = p
            · subst e
              rw [HX.out] at hx
              cases hx
              exact hg
            · exact HA.out j x (by omega) hx
          by_cases hp0 : p = 0
          · have HK : Hid (staOk ss.length p s = true) := by show staOk ss.length p s = true; rw [staOk, HO.out]; simp [hp0]
            have hp1 : ¬ ((p : Int) > 0) := by omega
            clear hp0
            go_wp2
            go_roundw
            case rel => exact ⟨p + 1, by omega, by go_num, HG.out HK.out, HBk.out⟩
            case measure => simp [intOf]; omega
          · have hp1 : (p : Int) > 0 := by omega
            have hp2 : 0 < p := by omega
            clear hp0
            cases hen : s.ends with
            | true =>
              have HK : Hid (staOk ss.length p s = true) := by show staOk ss.length p s = true; rw [staOk, HO.out]; simp [hen]
              go_wp2
              go_roundw
              case rel => exact ⟨p + 1, by omega, by go_num, HG.out HK.out, HBk.out⟩
              case measure => simp [intOf]; omega
            | false =>
              by_cases hl : s.es.length = 0
              · have HM : Hid (machT ss = false) := machT_bad HX.out (by rw [staOk_pos hp2, hen, List.isEmpty_iff_length_eq_zero.2 hl]; simp)
                have hli : (s.es.length : Int) = 0 := by omega
                go_wp2
                go_ret
                rw [HM.out]
                exact ⟨rfl, HBk.out⟩
              · have HK : Hid (staOk ss.length p s = true) := by
                  show staOk ss.length p s = true
                  rw [staOk_pos hp2, HO.out]
                  have : s.es.isEmpty = false := by cases hh : s.es with | nil => simp [hh] at hl | cons => rfl
                  simp [this]
                have hli : ¬ (s.es.length : Int) = 0 := by omega
                go_wp2
                go_roundw
                case rel => exact ⟨p + 1, by omega, by go_num, HG.out HK.out, HBk.out⟩
                case measure => simp [intOf]; omega
    · have HO : Hid (stasOk ss = true) := stasOk_true (fun i s hs => HA.out i s (by have := (List.getElem?_eq_some_iff.1 hs).1; omega) hs)
      cases hI : inT (ss.length : Int) 1 400 with
      | false =>
        have HM : Hid (machT ss = false) := machT_short (by simp [inT] at hI; omega)
        go_wp2_with (go_at_call 26; refine (l1In_is hI _).mono ?_; rintro e w' ⟨rfl, rfl⟩)
        go_ret
        rw [HM.out]
        exact ⟨rfl, HB.out⟩
      | true =>
        have h14 : 1 ≤ ss.length ∧ ss.length ≤ 400 := by simp [inT] at hI; omega
        obtain ⟨h1, h4⟩ := h14
        have HM : Hid (machT ss = decide (tab deepF deepZ ss ss.length 0 ≤ 12)) := machT_all h1 h4 HO.out
        go_wp2_with (first | (go_at_call 26; refine (l1In_is hI _).mono ?_; rintro e w' ⟨rfl, rfl⟩) | (go_at_call 27; refine (l3Deep_any _ _ ss (HS.out.below HB.out) HO.out h1 h4).mono ?_; rintro e w' ⟨rfl, hb'⟩; have HB' : Hid (Below w.heap.size w w') := HB.out.trans (hb'.mono HB.out.size); clear hb'))
        go_ret
        rw [HM.out]
        exact ⟨rfl, HB'.out⟩
end Go.Proofs.Ytpjkgpglbbppjaa
