/-
  MachineCount: both sides, and the law FnExactMachineCount.
-/
import Derived.Test.YtlpcmikljhoabaaW52
import Derived.Test.YtlpcmikljhoabaaW49
import Derived.Test.YtlpcmikljhoabaaW44
import Derived.Test.YtlpcmikljhoabaaW41
namespace Go.Proofs.Ytlpcmikljhoabaa
open Go.RowKit
set_option linter.unusedVariables false
theorem machT_parts {ss : List Sta} (h : machT ss = true) : stasOk ss = true ∧ 1 ≤ ss.length ∧ ss.length ≤ 400 := by
  simp only [machT, Bool.and_eq_true, decide_eq_true_eq] at h
  exact ⟨h.1.2, h.1.1.1, h.1.1.2⟩
/-- How many texts a machine knows. -/
def cntT (ss : List Sta) : Int := if machT ss then tab cntF cntZ ss ss.length 0 else 0
set_option maxHeartbeats 1000000 in
theorem implMachineCount_any (w : World) (v : Value) (ss : List Sta) (h : StatesAt w v ss) :
    Calls Try.prog 14 #[v] w fun e w' => e = .returned (.int .i64 (cntT ss)) ∧ Below w.heap.size w w' := by
  obtain ⟨a, cap, rfl, hc, hm⟩ := h.form
  have HS : Hid (StatesAt w (.slice a ss.length cap) ss) := h
  clear h
  cases hmt : machT ss with
  | false =>
    have HC : Hid (cntT ss = 0) := by show cntT ss = 0; simp [cntT, hmt]
    go_enter Try.func14, Try.ntmps14
    go_wp2_with fail
    refine (implMachineOk_any _ _ ss HS.out).mono ?_
    rintro e w1 ⟨rfl, hb1⟩
    have HB1 : Hid (Below w.heap.size w w1) := hb1
    clear hb1
    go_wp2
    go_ret
    rw [HC.out]
    exact ⟨rfl, HB1.out⟩
  | true =>
    have HC : Hid (cntT ss = tab cntF cntZ ss ss.length 0) := by show cntT ss = _; simp [cntT, hmt]
    obtain ⟨hok, h1, h4⟩ := machT_parts hmt
    have HO : Hid (stasOk ss = true) := hok
    clear hok
    go_enter Try.func14, Try.ntmps14
    go_wp2_with fail
    refine (implMachineOk_any _ _ ss HS.out).mono ?_
    rintro e w1 ⟨rfl, hb1⟩
    have HB1 : Hid (Below w.heap.size w w1) := hb1
    clear hb1
    go_wp2_with fail
    refine (counts_any _ _ ss (HS.out.below HB1.out) HO.out h1 h4).mono ?_
    rintro e w2 ⟨rfl, hr2, hb2⟩
    have HB2 : Hid (Below w.heap.size w w2) := HB1.out.trans (hb2.mono HB1.out.size)
    have d0 : w2.cell? ⟨w1.heap.size, 0, none⟩ = some (.int .i64 (tab cntF cntZ ss ss.length 0)) := hr2.cell (i := 0) (by omega)
    clear hb2 hr2
    go_wp2
    go_ret
    rw [HC.out]
    exact ⟨rfl, HB2.out⟩
set_option maxHeartbeats 1000000 in
theorem specMachineCount_any (w : World) (v : Value) (ss : List Sta) (h : StatesAt w v ss) :
    Calls Try.prog 13 #[v] w fun e w' => e = .returned (.int .i64 (cntT ss)) ∧ Below w.heap.size w w' := by
  obtain ⟨a, cap, rfl, hc, hm⟩ := h.form
  have HS : Hid (StatesAt w (.slice a ss.length cap) ss) := h
  clear h
  cases hmt : machT ss with
  | false =>
    have HC : Hid (cntT ss = 0) := by show cntT ss = 0; simp [cntT, hmt]
    go_enter Try.func13, Try.ntmps13
    go_wp2_with fail
    refine (specMachineOk_any _ _ ss HS.out).mono ?_
    rintro e w1 ⟨rfl, hb1⟩
    have HB1 : Hid (Below w.heap.size w w1) := hb1
    clear hb1
    go_wp2
    go_ret
    rw [HC.out]
    exact ⟨rfl, HB1.out⟩
  | true =>
    have HC : Hid (cntT ss = tab cntF cntZ ss ss.length 0) := by show cntT ss = _; simp [cntT, hmt]
    obtain ⟨hok, h1, h4⟩ := machT_parts hmt
    have HO : Hid (stasOk ss = true) := hok
    clear hok
    go_enter Try.func13, Try.ntmps13
    go_wp2_with fail
    refine (specMachineOk_any _ _ ss HS.out).mono ?_
    rintro e w1 ⟨rfl, hb1⟩
    have HB1 : Hid (Below w.heap.size w w1) := hb1
    clear hb1
    go_wp2_with fail
    refine (l3Counts_any _ _ ss (HS.out.below HB1.out) HO.out h1 h4).mono ?_
    rintro e w2 ⟨rfl, hr2, hb2⟩
    have HB2 : Hid (Below w.heap.size w w2) := HB1.out.trans (hb2.mono HB1.out.size)
    have d0 : w2.cell? ⟨w1.heap.size, 0, none⟩ = some (.int .i64 (tab cntF cntZ ss ss.length 0)) := hr2.cell (i := 0) (by omega)
    clear hb2 hr2
    go_wp2
    go_ret
    rw [HC.out]
    exact ⟨rfl, HB2.out⟩
set_option maxHeartbeats 1000000 in
theorem fnExactMachineCount_walk (v : Value) (ss : List Sta) (w : World) (h : StatesAt w v ss) :
    Calls Try.prog 4 #[v] w fun e w' => e = .returned (.bool true) ∧ Below w.heap.size w w' := by
  obtain ⟨a, cap, rfl, hc, hm⟩ := h.form
  have HS : Hid (StatesAt w (.slice a ss.length cap) ss) := h
  clear h
  go_enter Try.func4, Try.ntmps4
  go_wp2_with fail
  refine (szStateS_any _ _ ss _ HS.out (by omega) (by omega)).mono ?_
  rintro e w1 ⟨⟨r, rfl, hr⟩, hb1⟩
  have HB1 : Hid (Below w.heap.size w w1) := hb1
  have HR : Hid (0 ≤ r → SmallS ss) := hr
  clear hb1 hr
  by_cases hr : r < 0
  · go_wp2
    go_ret
    exact ⟨rfl, HB1.out⟩
  · have HN : Hid (SmallS ss) := HR.out (by omega)
    go_wp2_with fail
    refine (toStateS_any _ _ ss (HS.out.below HB1.out) HN.out).mono ?_
    rintro e w2 ⟨v2, rfl, h2, hb2⟩
    obtain ⟨a2, cap2, rfl, hc2, hm2⟩ := h2.form
    have HB2 : Hid (Below w.heap.size w w2) := HB1.out.trans (hb2.mono HB1.out.size)
    have H2 : Hid (StatesAt w2 (.slice a2 ss.length cap2) ss) := h2
    clear hb2 h2
    go_wp2_with fail
    refine (specMachineCount_any _ _ ss H2.out).mono ?_
    rintro e w3 ⟨rfl, hb3⟩
    have HB3 : Hid (Below w.heap.size w w3) := HB2.out.trans (hb3.mono HB2.out.size)
    clear hb3
    go_wp2_with fail
    refine (toStateS_any _ _ ss (HS.out.below HB3.out) HN.out).mono ?_
    rintro e w4 ⟨v4, rfl, h4, hb4⟩
    obtain ⟨a4, cap4, rfl, hc4, hm4⟩ := h4.form
    have HB4 : Hid (Below w.heap.size w w4) := HB3.out.trans (hb4.mono HB3.out.size)
    have H4 : Hid (StatesAt w4 (.slice a4 ss.length cap4) ss) := h4
    clear hb4 h4
    go_wp2_with fail
    refine (implMachineCount_any _ _ ss H4.out).mono ?_
    rintro e w5 ⟨rfl, hb5⟩
    have HB5 : Hid (Below w.heap.size w w5) := HB4.out.trans (hb5.mono HB4.out.size)
    have H5 : Hid (StatesAt w5 (.slice a4 ss.length cap4) ss) := H4.out.below hb5
    clear hb5
    go_wp2_with fail
    refine (toStateS_any _ _ ss (HS.out.below HB5.out) HN.out).mono ?_
    rintro e w6 ⟨v6, rfl, h6, hb6⟩
    obtain ⟨a6, cap6, rfl, hc6, hm6⟩ := h6.form
    have HB6 : Hid (Below w.heap.size w w6) := HB5.out.trans (hb6.mono HB5.out.size)
    have H6 : Hid (StatesAt w6 (.slice a6 ss.length cap6) ss) := h6
    have H6' : Hid (StatesAt w6 (.slice a4 ss.length cap4) ss) := H5.out.below hb6
    clear hb6 h6
    go_wp2_with fail
    refine (eqStateS_same _ _ _ ss H6'.out H6.out).mono ?_
    rintro e w7 ⟨rfl, hb7⟩
    have HB7 : Hid (Below w.heap.size w w7) := HB6.out.trans (hb7.mono HB6.out.size)
    clear hb7
    go_wp2_with fail
    go_ret
    exact ⟨rfl, HB7.out⟩
end Go.Proofs.Ytlpcmikljhoabaa
