/-
  Forms of releases, and releases written, as the specification has them.
-/
import Derived.Test.YtcfpbjhfhdcjoaaGreatDoorW185
namespace Go.Proofs.YtcfpbjhfhdcjoaaGreatDoor
open Go.RowKit
set_option linter.unusedVariables false
theorem inU_iff {n lo hi : Int} : inU n lo hi = true ↔ lo ≤ n ∧ n ≤ hi := by simp [inU]
set_option maxRecDepth 100000 in
set_option maxHeartbeats 4000000 in
theorem l6Form_any (w : World) (v : Value) (x : ReleaseM) (h : ReleaseAt w v x) : Calls Tryz.prog 10 #[v] w fun e w' => e = .returned (.bool (formT x)) ∧ Below w.heap.size w w' := by
  obtain ⟨vg, vc, vl, rfl, h1, h2, h3, hu, he, tb⟩ := h
  obtain ⟨a, c, rfl, -⟩ := h1.form
  obtain ⟨a1, c1, rfl, -⟩ := h2.form
  obtain ⟨a2, c2, rfl, -⟩ := h3.form
  obtain ⟨n, ⟨gs, es, af, xs⟩, su, se⟩ := x
  dsimp only at hu he
  have HD : Hid (TextsAt w (.slice a gs.length c) gs ∧ EntsAt w (.slice a1 es.length c1) es ∧ AffsAt w (.slice a2 xs.length c2) xs ∧ powTab w) := ⟨h1, h2, h3, tb⟩
  have HR : Hid (ReleaseAt w (.agg #[.int .i64 n, .slice a gs.length c, .slice a1 es.length c1, .bool af, .slice a2 xs.length c2, .string su, .string se]) (n, (gs, es, af, xs), su, se)) := ⟨_, _, _, rfl, h1, h2, h3, hu, he, tb⟩
  have HU : Hid (su.size ≤ maxLen ∧ se.size ≤ maxLen) := ⟨hu, he⟩
  have HB0 : Hid (Below w.heap.size w (w.alloc (.cells #[.int .i64 n, .slice a gs.length c, .slice a1 es.length c1, .bool af, .slice a2 xs.length c2, .string su, .string se] 36))) := (Below.refl _ _).alloc (Nat.le_refl _) _
  clear h1 h2 h3 tb hu he
  cases hA : inU n 1 999999 with
  | false =>
    have HF : Hid (formT (n, (gs, es, af, xs), su, se) = false) := by
      show formT _ = _
      have h9 : ¬ (1 ≤ n ∧ n ≤ 999999) := fun q => by rw [inU_iff.2 q] at hA; cases hA
      cases h8 : formT (n, (gs, es, af, xs), su, se) with
      | false => rfl
      | true => exact absurd (form_parts h8).1 h9
    go_enter Tryz.func10, Tryz.ntmps10
    go_wp2_with fail
    refine (l1InU_is hA _).mono ?_
    rintro e w1 ⟨rfl, hw2⟩
    have hw3 := hw2.symm
    clear hw2
    subst hw3
    go_wp2
    go_ret
    exact ⟨ret_bool HF.out.symm, HB0.out⟩
  | true =>
    obtain ⟨a0, b0⟩ := inU_iff.1 hA
    cases hD : deltaT gs es af xs with
    | false =>
      have HF : Hid (formT (n, (gs, es, af, xs), su, se) = false) := by show formT _ = _; simp [formT, hD]
      go_enter Tryz.func10, Tryz.ntmps10
      go_wp2_with fail
      refine (l1InU_is hA _).mono ?_
      rintro e w1 ⟨rfl, hw2⟩
      have hw3 := hw2.symm
      clear hw2
      subst hw3
      go_wp2_with fail
      refine (specDeltaOk_any _ _ _ _ af gs es xs (HD.out.1.below HB0.out) (HD.out.2.1.below HB0.out) (HD.out.2.2.1.below HB0.out)).mono ?_
      rintro e w1 ⟨rfl, hb1⟩
      rw [hD]
      have HB1 : Hid (Below w.heap.size w w1) := HB0.out.trans (hb1.mono HB0.out.size)
      clear hb1
      go_wp2
      go_ret
      exact ⟨ret_bool HF.out.symm, HB1.out⟩
    | true =>
      have HOK : Hid (deltaT gs es af xs = true) := hD
      have hu9 := HU.out
      unfold maxLen at hu9
      go_enter Tryz.func10, Tryz.ntmps10
      go_wp2_with fail
      refine (l1InU_is hA _).mono ?_
      rintro e w1 ⟨rfl, hw2⟩
      have hw3 := hw2.symm
      clear hw2
      subst hw3
      go_wp2_with fail
      refine (specDeltaOk_any _ _ _ _ af gs es xs (HD.out.1.below HB0.out) (HD.out.2.1.below HB0.out) (HD.out.2.2.1.below HB0.out)).mono ?_
      rintro e w1 ⟨rfl, hb1⟩
      rw [hD]
      have HB1 : Hid (Below w.heap.size w w1) := HB0.out.trans (hb1.mono HB0.out.size)
      have k0 : w1.cell? ⟨w.heap.size, 0, none⟩ = some (.int .i64 n) := (hb1.cell (p := ⟨w.heap.size, 0, none⟩) (by simp)).trans (by simp [go_sem])
      have k1 : w1.cell? ⟨w.heap.size, 1, none⟩ = some (.slice a gs.length c) := (hb1.cell (p := ⟨w.heap.size, 1, none⟩) (by simp)).trans (by simp [go_sem])
      have k2 : w1.cell? ⟨w.heap.size, 2, none⟩ = some (.slice a1 es.length c1) := (hb1.cell (p := ⟨w.heap.size, 2, none⟩) (by simp)).trans (by simp [go_sem])
      have k3 : w1.cell? ⟨w.heap.size, 3, none⟩ = some (.bool af) := (hb1.cell (p := ⟨w.heap.size, 3, none⟩) (by simp)).trans (by simp [go_sem])
      have k4 : w1.cell? ⟨w.heap.size, 4, none⟩ = some (.slice a2 xs.length c2) := (hb1.cell (p := ⟨w.heap.size, 4, none⟩) (by simp)).trans (by simp [go_sem])
      have k5 : w1.cell? ⟨w.heap.size, 5, none⟩ = some (.string su) := (hb1.cell (p := ⟨w.heap.size, 5, none⟩) (by simp)).trans (by simp [go_sem])
      have k6 : w1.cell? ⟨w.heap.size, 6, none⟩ = some (.string se) := (hb1.cell (p := ⟨w.heap.size, 6, none⟩) (by simp)).trans (by simp [go_sem])
      have hz1 : w.heap.size < w1.heap.size := by have := hb1.size; simp at this; omega
      clear hb1
      by_cases s1 : su.size = 64
      · by_cases s2 : se.size = 64
        · have s1' : (su.size : Int) = 64 := by omega
          have s2' : (se.size : Int) = 64 := by omega
          have HF : Hid (formT (n, (gs, es, af, xs), su, se) = (figsL su.data.toList && (figsL se.data.toList && decide ((relL (n, (gs, es, af, xs), su, se)).length ≤ 1200)))) := by
            show formT _ = _
            simp [formT, hD, a0, b0, sumT, s1, s2]
          go_wp2
          go_loop [3] (fun i => ∃ k : Nat, k ≤ 64 ∧ i = .int .i64 k ∧ figsL (su.data.toList.take k) = true ∧ figsL (se.data.toList.take k) = true) (fun i => 64 - (intOf i).toNat)
          case atStart => exact ⟨0, Nat.zero_le _, rfl, rfl, rfl⟩
          case round =>
            obtain ⟨k, hk, rfl, hr1, hr2⟩ := hrel
            have HR1 : Hid (figsL (su.data.toList.take k) = true) := hr1
            have HR2 : Hid (figsL (se.data.toList.take k) = true) := hr2
            clear hr1 hr2
            by_cases hlt : k < 64
            · have hlt' : (k : Int) < 64 := by omega
              have hk1 : k < su.size := by omega
              have hk2 : k < se.size := by omega
              have hi1 : 0 ≤ (k : Int) ∧ (k : Int) < su.size := by omega
              have hi2 : 0 ≤ (k : Int) ∧ (k : Int) < se.size := by omega
              have hi64 : 0 ≤ (k : Int) ∧ (k : Int) < 64 := by omega
              cases f1 : figB (su[k].toNat : Int) with
              | false =>
                have HG : Hid (formT (n, (gs, es, af, xs), su, se) = false) := by show formT _ = _; rw [HF.out, figs_bad su k hk1 f1]; rfl
                go_wp2_with fail
                refine (l6Figure_any _ _ (by omega) (by have := su[k].toNat_lt; omega)).mono ?_
                rintro e w2 ⟨rfl, hw2⟩
                rw [f1]
                have hw3 := hw2.symm
                clear hw2
                subst hw3
                go_wp2
                go_ret
                exact ⟨ret_bool HG.out.symm, HB1.out⟩
              | true =>
                go_wp2_with fail
                refine (l6Figure_any _ _ (by omega) (by have := su[k].toNat_lt; omega)).mono ?_
                rintro e w2 ⟨rfl, hw2⟩
                rw [f1]
                have hw3 := hw2.symm
                clear hw2
                subst hw3
                cases f2 : figB (se[k].toNat : Int) with
                | false =>
                  have HG : Hid (formT (n, (gs, es, af, xs), su, se) = false) := by show formT _ = _; rw [HF.out, figs_bad se k hk2 f2]; simp
                  go_wp2_with fail
                  refine (l6Figure_any _ _ (by omega) (by have := se[k].toNat_lt; omega)).mono ?_
                  rintro e w2 ⟨rfl, hw2⟩
                  rw [f2]
                  have hw3 := hw2.symm
                  clear hw2
                  subst hw3
                  go_wp2
                  go_ret
                  exact ⟨ret_bool HG.out.symm, HB1.out⟩
                | true =>
                  have HN : Hid (figsL (su.data.toList.take (k + 1)) = true ∧ figsL (se.data.toList.take (k + 1)) = true) := by
                    show figsL _ = true ∧ figsL _ = true
                    rw [figs_take_succ su k hk1, HR1.out, f1, figs_take_succ se k hk2, HR2.out, f2]
                    exact ⟨rfl, rfl⟩
                  go_wp2_with fail
                  refine (l6Figure_any _ _ (by omega) (by have := se[k].toNat_lt; omega)).mono ?_
                  rintro e w2 ⟨rfl, hw2⟩
                  rw [f2]
                  have hw3 := hw2.symm
                  clear hw2
                  subst hw3
                  go_wp2
                  go_round
                  case rel => exact ⟨k + 1, by omega, by go_num, HN.out.1, HN.out.2⟩
                  case measure => simp [intOf]; omega
            · have hlt' : ¬ (k : Int) < 64 := by omega
              have HG : Hid (formT (n, (gs, es, af, xs), su, se) = decide ((relL (n, (gs, es, af, xs), su, se)).length ≤ 1200)) := by
                show formT _ = _
                rw [HF.out, ← figs_all su k (by omega), HR1.out, ← figs_all se k (by omega), HR2.out]
                rfl
              obtain ⟨RT, hRT⟩ : ∃ T, mkT (relL (n, (gs, es, af, xs), su, se)) = T := ⟨_, rfl⟩
              have hrs : (relL (n, (gs, es, af, xs), su, se)).length = RT.size := by rw [← hRT, mk_size]
              rw [hrs] at HG
              have HRT : Hid (mkT (relL (n, (gs, es, af, xs), su, se)) = RT) := hRT
              have hr9 : RT.size ≤ 300000 := by
                rw [← hrs]
                have h5 := dputL_len hD
                have h6 := itoa_len a0 b0
                simp only [relL, List.length_append, List.length_cons, List.length_nil, bl_length]
                omega
              clear hRT hrs
              go_wp2_with fail
              refine (l6Text_any _ _ (n, (gs, es, af, xs), su, se) (HR.out.below HB1.out) a0 b0 HOK.out (by dsimp only; omega)).mono ?_
              rintro e w2 ⟨rfl, hb2⟩
              rw [HRT.out]
              have HB2 : Hid (Below w.heap.size w w2) := HB1.out.trans (hb2.mono HB1.out.size)
              clear hb2
              go_wp2
              go_ret
              exact ⟨ret_bool (by rw [HG.out]; exact decide_eq_decide.2 (by omega)), HB2.out⟩
        · have s2' : ¬ (se.size : Int) = 64 := by omega
          have s1' : (su.size : Int) = 64 := by omega
          have HF : Hid (formT (n, (gs, es, af, xs), su, se) = false) := by show formT _ = _; simp [formT, sumT, s2]
          go_wp2
          go_ret
          exact ⟨ret_bool HF.out.symm, HB1.out⟩
      · have s1' : ¬ (su.size : Int) = 64 := by omega
        have HF : Hid (formT (n, (gs, es, af, xs), su, se) = false) := by show formT _ = _; simp [formT, sumT, s1]
        go_wp2
        go_ret
        exact ⟨ret_bool HF.out.symm, HB1.out⟩
set_option maxRecDepth 100000 in
set_option maxHeartbeats 4000000 in
theorem specReleasePut_any (w : World) (v : Value) (x : ReleaseM) (h : ReleaseAt w v x) : Calls Tryz.prog 5 #[v] w fun e w' => e = .returned (.string (rputT x)) ∧ Below w.heap.size w w' := by
  obtain ⟨vg, vc, vl, rfl, h1, h2, h3, hu, he, tb⟩ := h
  obtain ⟨a, c, rfl, -⟩ := h1.form
  obtain ⟨a1, c1, rfl, -⟩ := h2.form
  obtain ⟨a2, c2, rfl, -⟩ := h3.form
  obtain ⟨n, ⟨gs, es, af, xs⟩, su, se⟩ := x
  dsimp only at hu he
  have HD : Hid (TextsAt w (.slice a gs.length c) gs ∧ EntsAt w (.slice a1 es.length c1) es ∧ AffsAt w (.slice a2 xs.length c2) xs ∧ powTab w) := ⟨h1, h2, h3, tb⟩
  have HR : Hid (ReleaseAt w (.agg #[.int .i64 n, .slice a gs.length c, .slice a1 es.length c1, .bool af, .slice a2 xs.length c2, .string su, .string se]) (n, (gs, es, af, xs), su, se)) := ⟨_, _, _, rfl, h1, h2, h3, hu, he, tb⟩
  have HU : Hid (su.size ≤ maxLen ∧ se.size ≤ maxLen) := ⟨hu, he⟩
  have HB0 : Hid (Below w.heap.size w (w.alloc (.cells #[.int .i64 n, .slice a gs.length c, .slice a1 es.length c1, .bool af, .slice a2 xs.length c2, .string su, .string se] 36))) := (Below.refl _ _).alloc (Nat.le_refl _) _
  clear h1 h2 h3 tb hu he
  cases hF : formT (n, (gs, es, af, xs), su, se) with
  | false =>
    have HF : Hid (rputT (n, (gs, es, af, xs), su, se) = ⟨#[]⟩) := if_neg (by rw [hF]; decide)
    go_enter Tryz.func5, Tryz.ntmps5
    go_wp2_with fail
    refine (l6Form_any _ _ (n, (gs, es, af, xs), su, se) (HR.out.below HB0.out)).mono ?_
    rintro e w1 ⟨rfl, hb1⟩
    rw [hF]
    have HB1 : Hid (Below w.heap.size w w1) := HB0.out.trans (hb1.mono HB0.out.size)
    clear hb1
    go_wp2
    go_ret
    rw [HF.out]
    exact ⟨rfl, HB1.out⟩
  | true =>
    obtain ⟨⟨q1, q2⟩, q3, q4, q5, q6⟩ := form_parts hF
    dsimp only at q1 q2 q3 q4 q5
    obtain ⟨RT, hRT⟩ : ∃ T, mkT (relL (n, (gs, es, af, xs), su, se)) = T := ⟨_, rfl⟩
    have hr9 : RT.size ≤ 1200 := by rw [← hRT, mk_size]; exact q6
    obtain ⟨T1, h1⟩ : ∃ T, RT ++ ⟨#[115, 101, 97, 108, 32]⟩ = T := ⟨_, rfl⟩
    have z1 : T1.size ≤ 1205 := by rw [← h1, ByteArray.size_append]; show RT.size + 5 ≤ 1205; omega
    obtain ⟨T2, h2⟩ : ∃ T, T1 ++ se = T := ⟨_, rfl⟩
    have z2 : T2.size ≤ 1300 := by rw [← h2, ByteArray.size_append]; omega
    obtain ⟨T3, h3⟩ : ∃ T, T2 ++ ⟨#[10]⟩ = T := ⟨_, rfl⟩
    have HF : Hid (rputT (n, (gs, es, af, xs), su, se) = T3) := by
      show rputT _ = T3
      unfold rputT
      rw [if_pos hF, ← h3, ← h2, ← h1, ← hRT]
      apply ByteArray.ext
      simp [mkT, bl]
    have r1 : ∀ w : World, (Op.stringOp .add RT ⟨#[115, 101, 97, 108, 32]⟩).run Tryz.prog w = .ok (.string T1) w := fun w => by rw [run_string_add_sum w RT ⟨#[115, 101, 97, 108, 32]⟩ (show RT.size + 5 ≤ 9223372036854775807 by omega), h1]
    have r2 : ∀ w : World, (Op.stringOp .add T1 se).run Tryz.prog w = .ok (.string T2) w := fun w => by rw [run_string_add_sum w _ _ (by omega), h2]
    have r3 : ∀ w : World, (Op.stringOp .add T2 ⟨#[10]⟩).run Tryz.prog w = .ok (.string T3) w := fun w => by rw [run_string_add_sum w T2 ⟨#[10]⟩ (show T2.size + 1 ≤ 9223372036854775807 by omega), h3]
    have HRT : Hid (mkT (relL (n, (gs, es, af, xs), su, se)) = RT) := hRT
    have HQ : Hid ((1 ≤ n ∧ n ≤ 999999) ∧ deltaT gs es af xs = true ∧ su.size ≤ 64) := ⟨⟨q1, q2⟩, q3, by omega⟩
    clear hRT h1 h2 h3 z1 z2 q1 q2 q3 q4 q5 q6 hr9
    go_enter Tryz.func5, Tryz.ntmps5
    go_wp2_with fail
    refine (l6Form_any _ _ (n, (gs, es, af, xs), su, se) (HR.out.below HB0.out)).mono ?_
    rintro e w1 ⟨rfl, hb1⟩
    rw [hF]
    have HB1 : Hid (Below w.heap.size w w1) := HB0.out.trans (hb1.mono HB0.out.size)
    have k0 : w1.cell? ⟨w.heap.size, 0, none⟩ = some (.int .i64 n) := (hb1.cell (p := ⟨w.heap.size, 0, none⟩) (by simp)).trans (by simp [go_sem])
    have k1 : w1.cell? ⟨w.heap.size, 1, none⟩ = some (.slice a gs.length c) := (hb1.cell (p := ⟨w.heap.size, 1, none⟩) (by simp)).trans (by simp [go_sem])
    have k2 : w1.cell? ⟨w.heap.size, 2, none⟩ = some (.slice a1 es.length c1) := (hb1.cell (p := ⟨w.heap.size, 2, none⟩) (by simp)).trans (by simp [go_sem])
    have k3 : w1.cell? ⟨w.heap.size, 3, none⟩ = some (.bool af) := (hb1.cell (p := ⟨w.heap.size, 3, none⟩) (by simp)).trans (by simp [go_sem])
    have k4 : w1.cell? ⟨w.heap.size, 4, none⟩ = some (.slice a2 xs.length c2) := (hb1.cell (p := ⟨w.heap.size, 4, none⟩) (by simp)).trans (by simp [go_sem])
    have k5 : w1.cell? ⟨w.heap.size, 5, none⟩ = some (.string su) := (hb1.cell (p := ⟨w.heap.size, 5, none⟩) (by simp)).trans (by simp [go_sem])
    have k6 : w1.cell? ⟨w.heap.size, 6, none⟩ = some (.string se) := (hb1.cell (p := ⟨w.heap.size, 6, none⟩) (by simp)).trans (by simp [go_sem])
    have hz1 : w.heap.size < w1.heap.size := by have := hb1.size; simp at this; omega
    have HX1 : Hid (Below w.heap.size w w1.drew) := HB1.out.drew
    clear hb1
    go_wp2_with fail
    go_region_held3 (fun w' => w'.cell? ⟨w.heap.size, 0, none⟩ = some (.int .i64 n) ∧ w'.cell? ⟨w.heap.size, 1, none⟩ = some (.slice a gs.length c) ∧ w'.cell? ⟨w.heap.size, 2, none⟩ = some (.slice a1 es.length c1) ∧ w'.cell? ⟨w.heap.size, 3, none⟩ = some (.bool af) ∧ w'.cell? ⟨w.heap.size, 4, none⟩ = some (.slice a2 xs.length c2) ∧ w'.cell? ⟨w.heap.size, 5, none⟩ = some (.string su) ∧ w'.cell? ⟨w.heap.size, 6, none⟩ = some (.string se)) (go_keep)
      ((go_at_call 11; refine (l6Text_any _ _ (n, (gs, es, af, xs), su, se) (HR.out.below HX1.out) HQ.out.1.1 HQ.out.1.2 HQ.out.2.1 HQ.out.2.2).mono ?_; rintro e w2 ⟨rfl, hb2⟩; rw [HRT.out]; have HB2 : Hid (Below w.heap.size w w2) := HX1.out.trans (hb2.mono HX1.out.size); have j0 := (hb2.cell (p := ⟨w.heap.size, 0, none⟩) hz1).trans k0; have j1 := (hb2.cell (p := ⟨w.heap.size, 1, none⟩) hz1).trans k1; have j2 := (hb2.cell (p := ⟨w.heap.size, 2, none⟩) hz1).trans k2; have j3 := (hb2.cell (p := ⟨w.heap.size, 3, none⟩) hz1).trans k3; have j4 := (hb2.cell (p := ⟨w.heap.size, 4, none⟩) hz1).trans k4; have j5 := (hb2.cell (p := ⟨w.heap.size, 5, none⟩) hz1).trans k5; have j6 := (hb2.cell (p := ⟨w.heap.size, 6, none⟩) hz1).trans k6; clear hb2 k0 k1 k2 k3 k4 k5 k6))
    all_goals
      go_wp2
      go_ret
      rw [HF.out]
      exact ⟨rfl, HB2.out⟩
end Go.Proofs.YtcfpbjhfhdcjoaaGreatDoor
