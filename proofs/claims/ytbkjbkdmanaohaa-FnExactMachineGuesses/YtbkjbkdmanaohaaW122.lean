/-
  The law FnExactMachineGuesses.
-/
import Derived.Test.YtbkjbkdmanaohaaW120
import Derived.Test.YtbkjbkdmanaohaaW121
namespace Go.Proofs.Ytbkjbkdmanaohaa
open Go.RowKit
set_option linter.unusedVariables false
theorem TextsOwn.wr {l hi : Nat} {w w' : World} {v : Value} {xs : List ByteArray} (h : TextsOwn hi w v xs) (hw : Wr l hi w w') : TextsOwn hi w' v xs := by
  obtain ⟨a, cap, hv, hc, hm, hf, hh⟩ := h
  refine ⟨a, cap, hv, hc, hm, hf, fun hn => ?_⟩
  obtain ⟨g, n, f, ha, hlo, hle, hr, hx⟩ := hh hn
  exact ⟨g, n, f, ha, hlo, hle, hr.of_block (hw.2.2.1 g hlo hr.lt), hx⟩
set_option maxHeartbeats 2000000 in
theorem fnExactMachineGuesses_walk (v : Value) (ss : List Sta) (s : ByteArray) (w : World) (h : StatesAt w v ss) (hs : s.size ≤ maxLen) :
    Calls Try.prog 4 #[v, .string s] w fun e w' => e = .returned (.bool true) ∧ Below w.heap.size w w' := by
  obtain ⟨a, cap, rfl, hc, hm⟩ := h.form
  have HS : Hid (StatesAt w (.slice a ss.length cap) ss) := h
  clear h
  unfold maxLen at hs
  by_cases hsz : (s.size : Int) > 1048576
  · go_enter Try.func4, Try.ntmps4
    go_wp2
    go_ret
    exact ⟨rfl, Below.refl _ _⟩
  have hsz' : ¬ (1048576 : Int) < s.size := by omega
  have hsn : s.size ≤ 1048576 := by omega
  obtain ⟨L, hL⟩ : ∃ L, gueT ss s = L := ⟨_, rfl⟩
  have hln : L.length ≤ 2000000000 := by rw [← hL]; exact Nat.le_trans (gue_length ss s) (by decide)
  have HSP : Hid (∀ (w : World) (v : Value), StatesAt w v ss → Calls Try.prog 13 #[v, .string s] w fun e w' => ∃ v', e = .returned v' ∧ TextsAt w' v' L ∧ Below w.heap.size w w') := fun w v h => by
    rw [← hL]
    exact specMachineGuesses_any w v ss s h hsn
  have HIM : Hid (∀ (w : World) (v : Value), StatesAt w v ss → Calls Try.prog 14 #[v, .string s] w fun e w' => ∃ v', e = .returned v' ∧ TextsOwn w.heap.size w' v' L ∧ Below w.heap.size w w') := fun w v h => by
    rw [← hL]
    exact implMachineGuesses_any w v ss s h hsn
  clear hL
  go_enter Try.func4, Try.ntmps4
  go_wp2_with fail
  refine (szStateS_any _ _ ss _ HS.out (by omega) (by omega)).mono ?_
  rintro e w1 ⟨⟨r, rfl, hr⟩, hb1⟩
  have HB1 : Hid (Below w.heap.size w w1) := hb1
  have HR : Hid (0 ≤ r → SmallS ss) := hr
  clear hb1 hr
  by_cases hr : r < 0
  · go_wp2
    go_ret
    exact ⟨rfl, HB1.out⟩
  · have HN : Hid (SmallS ss) := HR.out (by omega)
    have hnl := HN.out.1
    go_wp2_with fail
    refine (toStateS_any _ _ ss (HS.out.below HB1.out) HN.out).mono ?_
    rintro e w2 ⟨v2, rfl, h2, hb2⟩
    obtain ⟨a2, cap2, rfl, hc2, hm2⟩ := h2.form
    have HB2 : Hid (Below w.heap.size w w2) := HB1.out.trans (hb2.mono HB1.out.size)
    have H2 : Hid (StatesAt w2 (.slice a2 ss.length cap2) ss) := h2
    clear hb2 h2
    go_wp2_with fail
    refine (HSP.out _ _ H2.out).mono ?_
    rintro e w3 ⟨u0, rfl, h3, hb3⟩
    obtain ⟨ua, ucap, rfl, _, _⟩ := h3.form
    have HB3 : Hid (Below w.heap.size w w3) := HB2.out.trans (hb3.mono HB2.out.size)
    have U3 : Hid (TextsAt w3 (.slice ua L.length ucap) L) := h3
    clear hb3 h3
    go_wp2_with fail
    refine (toStateS_own _ _ ss (HS.out.below HB3.out) HN.out).mono ?_
    rintro e w4 ⟨v4, rfl, ⟨h4, hmk⟩, hb4⟩
    obtain ⟨a4, cap4, rfl, hc4, hm4⟩ := h4.form
    have HB4 : Hid (Below w.heap.size w w4) := HB3.out.trans (hb4.mono HB3.out.size)
    have H4 : Hid (StatesAt w4 (.slice a4 ss.length cap4) ss) := h4
    have M4 : Hid (MarkS w3.heap.size w4.heap.size w4 (.slice a4 ss.length cap4) ss.length) := hmk
    have B34 : Hid (Below w3.heap.size w3 w4) := hb4
    clear hb4 h4 hmk
    go_wp2_with fail
    refine (HIM.out _ _ H4.out).mono ?_
    rintro e w5 ⟨g0, rfl, h5, hb5⟩
    obtain ⟨ga, gcap, rfl, _, _⟩ := h5.at.form
    have HB5 : Hid (Below w.heap.size w w5) := HB4.out.trans (hb5.mono HB4.out.size)
    have B35 : Hid (Below w3.heap.size w3 w5) := B34.out.trans (hb5.mono B34.out.size)
    have B45 : Hid (Below w4.heap.size w4 w5) := hb5
    have G5 : Hid (TextsOwn w4.heap.size w5 (.slice ga L.length gcap) L) := h5
    clear hb5 h5
    go_wp2_with fail
    refine (eqStringS_same _ _ _ L G5.out.at (U3.out.below B35.out)).mono ?_
    rintro e w6 ⟨rfl, hb6⟩
    have HB6 : Hid (Below w.heap.size w w6) := HB5.out.trans (hb6.mono HB5.out.size)
    have B36 : Hid (Below w3.heap.size w3 w6) := B35.out.trans (hb6.mono B35.out.size)
    have B46 : Hid (Below w4.heap.size w4 w6) := B45.out.trans (hb6.mono B45.out.size)
    have G6 : Hid (TextsOwn w4.heap.size w6 (.slice ga L.length gcap) L) := G5.out.below hb6
    clear hb6
    go_wp2_with fail
    refine (toStateS_any _ _ ss (HS.out.below HB6.out) HN.out).mono ?_
    rintro e w7 ⟨v7, rfl, h7, hb7⟩
    obtain ⟨a7, cap7, rfl, hc7, hm7⟩ := h7.form
    have HB7 : Hid (Below w.heap.size w w7) := HB6.out.trans (hb7.mono HB6.out.size)
    have B37 : Hid (Below w3.heap.size w3 w7) := B36.out.trans (hb7.mono B36.out.size)
    have B47 : Hid (Below w4.heap.size w4 w7) := B46.out.trans (hb7.mono B46.out.size)
    have G7 : Hid (TextsOwn w4.heap.size w7 (.slice ga L.length gcap) L) := G6.out.below hb7
    have H7 : Hid (StatesAt w7 (.slice a7 ss.length cap7) ss) := h7
    clear hb7 h7
    go_wp2_with fail
    refine (eqStateS_same _ _ _ ss (H4.out.below B47.out) H7.out).mono ?_
    rintro e w8 ⟨rfl, hb8⟩
    have HB8 : Hid (Below w.heap.size w w8) := HB7.out.trans (hb8.mono HB7.out.size)
    have B38 : Hid (Below w3.heap.size w3 w8) := B37.out.trans (hb8.mono B37.out.size)
    have B48 : Hid (Below w4.heap.size w4 w8) := B47.out.trans (hb8.mono B47.out.size)
    have G8 : Hid (TextsOwn w4.heap.size w8 (.slice ga L.length gcap) L) := G7.out.below hb8
    clear hb8
    go_wp2_with fail
    refine (markStateS_any w3.heap.size w4.heap.size _ _ ss.length (M4.out.below B48.out) hnl).mono ?_
    rintro e w9 ⟨⟨km, rfl, hkm⟩, hw9⟩
    have HB9 : Hid (Below w.heap.size w w9) := HB8.out.trans (hw9.1.mono HB3.out.size)
    have B39 : Hid (Below w3.heap.size w3 w9) := B38.out.trans hw9.1
    have G9 : Hid (TextsOwn w4.heap.size w9 (.slice ga L.length gcap) L) := G8.out.wr hw9
    have hz9 : w4.heap.size ≤ w9.heap.size := Nat.le_trans B48.out.size hw9.2.1
    have hkm' : ¬ km < 0 := by omega
    clear hw9
    go_wp2_with fail
    refine (eqStringS_same _ _ _ L G9.out.at (U3.out.below B39.out)).mono ?_
    rintro e w10 ⟨rfl, hb10⟩
    have HB10 : Hid (Below w.heap.size w w10) := HB9.out.trans (hb10.mono HB9.out.size)
    have B310 : Hid (Below w3.heap.size w3 w10) := B39.out.trans (hb10.mono B39.out.size)
    have G10 : Hid (TextsOwn w4.heap.size w10 (.slice ga L.length gcap) L) := G9.out.below hb10
    have hz10 : w4.heap.size ≤ w10.heap.size := Nat.le_trans hz9 hb10.size
    clear hb10
    go_wp2_with fail
    refine (markStringS_any w4.heap.size 1 _ _ L G10.out (by omega) hln hz10).mono ?_
    rintro e w11 ⟨rfl, h11, hb11⟩
    have HB11 : Hid (Below w.heap.size w w11) := HB10.out.trans (hb11.mono HB4.out.size)
    have B311 : Hid (Below w3.heap.size w3 w11) := B310.out.trans (hb11.mono B34.out.size)
    have G11 : Hid (TextsOwn w4.heap.size w11 (.slice ga L.length gcap) (marks 1 L.length)) := h11
    clear hb11 h11
    go_wp2_with fail
    refine (heldStringS_any 1 L.length _ _ G11.out.at (by omega) hln).mono ?_
    rintro e w12 ⟨rfl, hb12⟩
    have HB12 : Hid (Below w.heap.size w w12) := HB11.out.trans (hb12.mono HB11.out.size)
    have B312 : Hid (Below w3.heap.size w3 w12) := B311.out.trans (hb12.mono B311.out.size)
    have G12 : Hid (TextsOwn w4.heap.size w12 (.slice ga L.length gcap) (marks 1 L.length)) := G11.out.below hb12
    clear hb12
    go_wp2_with fail
    refine (toStateS_any _ _ ss (HS.out.below HB12.out) HN.out).mono ?_
    rintro e w13 ⟨v13, rfl, h13, hb13⟩
    obtain ⟨a13, cap13, rfl, hc13, hm13⟩ := h13.form
    have HB13 : Hid (Below w.heap.size w w13) := HB12.out.trans (hb13.mono HB12.out.size)
    have B313 : Hid (Below w3.heap.size w3 w13) := B312.out.trans (hb13.mono B312.out.size)
    have G13 : Hid (TextsOwn w4.heap.size w13 (.slice ga L.length gcap) (marks 1 L.length)) := G12.out.below hb13
    have H13 : Hid (StatesAt w13 (.slice a13 ss.length cap13) ss) := h13
    clear hb13 h13
    go_wp2_with fail
    refine (HIM.out _ _ H13.out).mono ?_
    rintro e w14 ⟨h0, rfl, h14, hb14⟩
    obtain ⟨ha, hcap, rfl, _, _⟩ := h14.at.form
    have HB14 : Hid (Below w.heap.size w w14) := HB13.out.trans (hb14.mono HB13.out.size)
    have B314 : Hid (Below w3.heap.size w3 w14) := B313.out.trans (hb14.mono B313.out.size)
    have G14 : Hid (TextsOwn w4.heap.size w14 (.slice ga L.length gcap) (marks 1 L.length)) := G13.out.below hb14
    have H14 : Hid (TextsAt w14 (.slice ha L.length hcap) L) := h14.at
    clear hb14 h14
    go_wp2_with fail
    refine (eqStringS_same _ _ _ L H14.out (U3.out.below B314.out)).mono ?_
    rintro e w15 ⟨rfl, hb15⟩
    have HB15 : Hid (Below w.heap.size w w15) := HB14.out.trans (hb15.mono HB14.out.size)
    have G15 : Hid (TextsOwn w4.heap.size w15 (.slice ga L.length gcap) (marks 1 L.length)) := G14.out.below hb15
    clear hb15
    go_wp2_with fail
    refine (heldStringS_any 1 L.length _ _ G15.out.at (by omega) hln).mono ?_
    rintro e w16 ⟨rfl, hb16⟩
    have HB16 : Hid (Below w.heap.size w w16) := HB15.out.trans (hb16.mono HB15.out.size)
    clear hb16
    go_wp2
    go_ret
    exact ⟨rfl, HB16.out⟩
end Go.Proofs.Ytbkjbkdmanaohaa
