/-
  FnExactWorldNew.
-/
import Derived.Test.YtfpkphkgnolkkaaW203
namespace Go.Proofs.Ytfpkphkgnolkkaa
open Go.RowKit
set_option linter.unusedVariables false
theorem WldOwn.form {lo hi : Nat} {w : World} {v : Value} {s : ByteArray} {nb n : Nat} {F : Nat → Nat → Value} (h : WldOwn lo hi w v s nb n F) : ∃ a a' c', v = .agg #[.string s, .slice a nb nb, .slice none 0 0, .slice a' n c'] := by
  obtain ⟨vb, vc, rfl, h1, h2⟩ := h
  obtain ⟨a, rfl⟩ := h1.form
  obtain ⟨a', c', rfl, _⟩ := h2.form
  exact ⟨a, a', c', rfl⟩
set_option maxRecDepth 100000 in
set_option maxHeartbeats 2000000 in
theorem fnExactWorldNew_walk (s : ByteArray) (n : Int) (w : World) (hs : s.size ≤ maxLen) (hn : (Lit.int .i64 n).wf = true) :
    Calls Try.prog 3 #[.string s, .int .i64 n] w fun e w' => e = .returned (.bool true) ∧ Below w.heap.size w w' := by
  by_cases h1 : (1048576 : Int) < (s.size : Int)
  · go_enter Try.func3, Try.ntmps3
    go_wp2
    go_ret
    exact ⟨rfl, Below.refl _ _⟩
  have hN := nN_le s n
  obtain ⟨S, hS⟩ : ∃ x, nS s n = x := ⟨_, rfl⟩
  obtain ⟨nb, hnb⟩ : ∃ x, nB s n = x := ⟨_, rfl⟩
  obtain ⟨N, hNN⟩ : ∃ x, nN s n = x := ⟨_, rfl⟩
  have HI : Hid (∀ w, Calls Try.prog 5 #[.string s, .int .i64 n] w fun e w' => ∃ v, e = .returned v ∧ WldOwn w.heap.size w'.heap.size w' v S nb N (newF s) ∧ Below w.heap.size w w') := fun w => by rw [← hS, ← hnb, ← hNN]; exact implWorldNew_any w s n hs
  have HP : Hid (∀ w, Calls Try.prog 4 #[.string s, .int .i64 n] w fun e w' => ∃ v, e = .returned v ∧ WldOwn w.heap.size w'.heap.size w' v S nb N (newF s) ∧ Below w.heap.size w w') := fun w => by rw [← hS, ← hnb, ← hNN]; exact specWorldNew_any w s n hs
  rw [hNN] at hN
  clear hS hnb hNN
  go_enter Try.func3, Try.ntmps3
  go_wp2_with fail
  refine (HP.out w).mono ?_
  rintro e w1 ⟨u, rfl, hu, hb1⟩
  obtain ⟨ua, ub, uc, rfl⟩ := hu.form
  obtain ⟨w2, hw2⟩ : ∃ x, w1.alloc (.cells #[.string S, .slice ua nb nb, .slice none 0 0, .slice ub N uc] 26) = x := ⟨_, rfl⟩
  have H12 : Below w1.heap.size w1 w2 := by rw [← hw2]; exact (Below.refl _ _).alloc (Nat.le_refl _) _
  have HB2 : Hid (Below w.heap.size w w2) := hb1.trans (H12.mono hb1.size)
  have HU : Hid (WldOwn w.heap.size w1.heap.size w2 (.agg #[.string S, .slice ua nb nb, .slice none 0 0, .slice ub N uc]) S nb N (newF s)) := hu.below H12
  have HX : Hid (w2.heap[w1.heap.size]? = some (.cells #[.string S, .slice ua nb nb, .slice none 0 0, .slice ub N uc] 26 (0, 0))) := by show _ = _; rw [← hw2]; exact heap_alloc_last w1 _
  clear hu hb1 H12
  go_wp2_with fail
  clear hw2
  refine (HI.out w2).mono ?_
  rintro e w3 ⟨v, rfl, hv, hb3⟩
  obtain ⟨va, vb, vc, rfl⟩ := hv.form
  obtain ⟨w4, hw4⟩ : ∃ x, w3.alloc (.cells #[.string S, .slice va nb nb, .slice none 0 0, .slice vb N vc] 26) = x := ⟨_, rfl⟩
  have H34 : Below w3.heap.size w3 w4 := by rw [← hw4]; exact (Below.refl _ _).alloc (Nat.le_refl _) _
  have HC4 : Hid (Below w2.heap.size w2 w4) := hb3.trans (H34.mono hb3.size)
  have HV : Hid (WldOwn w2.heap.size w3.heap.size w4 (.agg #[.string S, .slice va nb nb, .slice none 0 0, .slice vb N vc]) S nb N (newF s)) := hv.below H34
  have HY : Hid (w4.heap[w3.heap.size]? = some (.cells #[.string S, .slice va nb nb, .slice none 0 0, .slice vb N vc] 26 (0, 0))) := by show _ = _; rw [← hw4]; exact heap_alloc_last w3 _
  have hz3 : w2.heap.size ≤ w3.heap.size := hb3.size
  have hz4 : w3.heap.size < w4.heap.size := lt_of_block HY.out
  have HX4 : Hid (w4.heap[w1.heap.size]? = some (.cells #[.string S, .slice ua nb nb, .slice none 0 0, .slice ub N uc] 26 (0, 0))) := (HC4.out.block _ (lt_of_block HX.out)).trans HX.out
  have hzX : w1.heap.size < w2.heap.size := lt_of_block HX.out
  clear hv hb3 H34
  -- whatever is written lies between the two
  have HZ : Hid (∀ w', Wr w2.heap.size w3.heap.size w4 w' → (w'.cell? ⟨w1.heap.size, 0, none⟩ = some (.string S) ∧ w'.cell? ⟨w1.heap.size, 1, none⟩ = some (.slice ua nb nb) ∧ w'.cell? ⟨w1.heap.size, 2, none⟩ = some (.slice none 0 0) ∧ w'.cell? ⟨w1.heap.size, 3, none⟩ = some (.slice ub N uc)) ∧ (w'.cell? ⟨w3.heap.size, 0, none⟩ = some (.string S) ∧ w'.cell? ⟨w3.heap.size, 1, none⟩ = some (.slice va nb nb) ∧ w'.cell? ⟨w3.heap.size, 2, none⟩ = some (.slice none 0 0) ∧ w'.cell? ⟨w3.heap.size, 3, none⟩ = some (.slice vb N vc))) := fun w' h => by
    have e1 := (h.1.block _ hzX).trans HX4.out
    have e2 := (h.2.2.1 _ (Nat.le_refl _) hz4).trans HY.out
    exact ⟨⟨by rw [cell_of_row _ _ 0 _ _ _ e1]; rfl, by rw [cell_of_row _ _ 1 _ _ _ e1]; rfl, by rw [cell_of_row _ _ 2 _ _ _ e1]; rfl, by rw [cell_of_row _ _ 3 _ _ _ e1]; rfl⟩, by rw [cell_of_row _ _ 0 _ _ _ e2]; rfl, by rw [cell_of_row _ _ 1 _ _ _ e2]; rfl, by rw [cell_of_row _ _ 2 _ _ _ e2]; rfl, by rw [cell_of_row _ _ 3 _ _ _ e2]; rfl⟩
  have HUW : Hid (∀ w', Wr w2.heap.size w3.heap.size w4 w' → WldOwn w.heap.size w1.heap.size w' (.agg #[.string S, .slice ua nb nb, .slice none 0 0, .slice ub N uc]) S nb N (newF s)) := fun w' h => HU.out.below ((HC4.out.trans (h.1.mono (Nat.le_refl _))))
  obtain ⟨⟨x0, x1, x2, x3⟩, y0, y1, y2, y3⟩ := HZ.out w4 (Wr.refl _ _ _)
  go_wp2_with fail
  clear hw4
  refine (eqWorld_new S s _ _ _ nb N _ _ _ _ HV.out (HUW.out _ (Wr.refl _ _ _)) hN).mono ?_
  rintro e w5 ⟨rfl, hb5⟩
  have W5 : Hid (Wr w2.heap.size w3.heap.size w4 w5) := Wr.of_below hb5 HC4.out.size
  have HV5 : Hid (WldOwn w2.heap.size w3.heap.size w5 (.agg #[.string S, .slice va nb nb, .slice none 0 0, .slice vb N vc]) S nb N (newF s)) := HV.out.below hb5
  clear hb5 x0 x1 x2 x3 y0 y1 y2 y3
  obtain ⟨⟨x0, x1, x2, x3⟩, y0, y1, y2, y3⟩ := HZ.out w5 W5.out
  have hz5 : w3.heap.size ≤ w5.heap.size := by have := W5.out.sz; omega
  go_wp2_with fail
  refine (markWorld_new S s _ _ nb N 1 _ _ HV5.out hN (by omega) hz5 hz3).mono ?_
  rintro e w6 ⟨rfl, hv6, hw6⟩
  have W6 : Hid (Wr w2.heap.size w3.heap.size w4 w6) := W5.out.trans hw6
  have HV6 : Hid (WldOwn w2.heap.size w3.heap.size w6 (.agg #[.string S, .slice va nb nb, .slice none 0 0, .slice vb N vc]) S nb N (markF 1)) := hv6
  clear hv6 hw6 x0 x1 x2 x3 y0 y1 y2 y3
  obtain ⟨⟨x0, x1, x2, x3⟩, y0, y1, y2, y3⟩ := HZ.out w6 W6.out
  have HHELD : Hid (∀ w', WldOwn w2.heap.size w3.heap.size w' (.agg #[.string S, .slice va nb nb, .slice none 0 0, .slice vb N vc]) S nb N (markF 1) → Calls Try.prog 8 #[.agg #[.string S, .slice va nb nb, .slice none 0 0, .slice vb N vc], .int .i64 1] w' fun e w'' => e = .returned (.int .i64 ((1 + N * 4 : Nat) : Int)) ∧ Below w'.heap.size w' w'') := fun w' h => heldWorld_new S _ _ nb N 1 _ _ h hN (by omega)
  obtain ⟨K, hK⟩ : ∃ K : Nat, 1 + N * 4 = K := ⟨_, rfl⟩
  rw [hK] at HHELD ⊢
  clear hK
  have hK0 : ¬ ((K : Int) < 0) := by omega
  go_wp2_with fail
  refine (HHELD.out _ HV6.out).mono ?_
  rintro e w7 ⟨rfl, hb7⟩
  have W7 : Hid (Wr w2.heap.size w3.heap.size w4 w7) := W6.out.trans (Wr.of_below hb7 (by have := W6.out.sz; omega))
  have HV7 : Hid (WldOwn w2.heap.size w3.heap.size w7 (.agg #[.string S, .slice va nb nb, .slice none 0 0, .slice vb N vc]) S nb N (markF 1)) := HV6.out.below hb7
  clear hb7 x0 x1 x2 x3 y0 y1 y2 y3
  obtain ⟨⟨x0, x1, x2, x3⟩, y0, y1, y2, y3⟩ := HZ.out w7 W7.out
  go_wp2_with fail
  refine (HI.out w7).mono ?_
  rintro e w8 ⟨h0, rfl, hh, hb8⟩
  obtain ⟨ha, hb, hc, rfl⟩ := hh.form
  obtain ⟨w9, hw9⟩ : ∃ x, w8.alloc (.cells #[.string S, .slice ha nb nb, .slice none 0 0, .slice hb N hc] 26) = x := ⟨_, rfl⟩
  have H89 : Below w8.heap.size w8 w9 := by rw [← hw9]; exact (Below.refl _ _).alloc (Nat.le_refl _) _
  have B79 : Below w7.heap.size w7 w9 := hb8.trans (H89.mono hb8.size)
  have HH9 : Hid (WldOwn w7.heap.size w8.heap.size w9 (.agg #[.string S, .slice ha nb nb, .slice none 0 0, .slice hb N hc]) S nb N (newF s)) := hh.below H89
  have HT : Hid (w9.heap[w8.heap.size]? = some (.cells #[.string S, .slice ha nb nb, .slice none 0 0, .slice hb N hc] 26 (0, 0))) := by show _ = _; rw [← hw9]; exact heap_alloc_last w8 _
  have W9 : Hid (Wr w2.heap.size w3.heap.size w4 w9) := W7.out.trans (Wr.of_below B79 (by have := W7.out.sz; omega))
  have HV9 : Hid (WldOwn w2.heap.size w3.heap.size w9 (.agg #[.string S, .slice va nb nb, .slice none 0 0, .slice vb N vc]) S nb N (markF 1)) := HV7.out.below B79
  clear hh hb8 H89 B79 x0 x1 x2 x3 y0 y1 y2 y3
  obtain ⟨⟨x0, x1, x2, x3⟩, y0, y1, y2, y3⟩ := HZ.out w9 W9.out
  have t0 : w9.cell? ⟨w8.heap.size, 0, none⟩ = some (.string S) := by rw [cell_of_row _ _ 0 _ _ _ HT.out]; rfl
  have t1 : w9.cell? ⟨w8.heap.size, 1, none⟩ = some (.slice ha nb nb) := by rw [cell_of_row _ _ 1 _ _ _ HT.out]; rfl
  have t2 : w9.cell? ⟨w8.heap.size, 2, none⟩ = some (.slice none 0 0) := by rw [cell_of_row _ _ 2 _ _ _ HT.out]; rfl
  have t3 : w9.cell? ⟨w8.heap.size, 3, none⟩ = some (.slice hb N hc) := by rw [cell_of_row _ _ 3 _ _ _ HT.out]; rfl
  go_wp2_with fail
  clear hw9
  refine (eqWorld_new S s _ _ _ nb N _ _ _ _ HH9.out (HUW.out _ W9.out) hN).mono ?_
  rintro e w10 ⟨rfl, hb10⟩
  have W10 : Hid (Wr w2.heap.size w3.heap.size w4 w10) := W9.out.trans (Wr.of_below hb10 (by have := W9.out.sz; omega))
  have HV10 : Hid (WldOwn w2.heap.size w3.heap.size w10 (.agg #[.string S, .slice va nb nb, .slice none 0 0, .slice vb N vc]) S nb N (markF 1)) := HV9.out.below hb10
  clear hb10 x0 x1 x2 x3 y0 y1 y2 y3 t0 t1 t2 t3
  obtain ⟨⟨x0, x1, x2, x3⟩, y0, y1, y2, y3⟩ := HZ.out w10 W10.out
  go_wp2_with fail
  refine (HHELD.out _ HV10.out).mono ?_
  rintro e w11 ⟨rfl, hb11⟩
  have W11 : Hid (Wr w2.heap.size w3.heap.size w4 w11) := W10.out.trans (Wr.of_below hb11 (by have := W10.out.sz; omega))
  clear hb11 x0 x1 x2 x3 y0 y1 y2 y3
  go_wp2
  go_ret
  exact ⟨rfl, HB2.out.trans ((HC4.out.trans W11.out.1).mono HB2.out.size)⟩
end Go.Proofs.Ytfpkphkgnolkkaa
