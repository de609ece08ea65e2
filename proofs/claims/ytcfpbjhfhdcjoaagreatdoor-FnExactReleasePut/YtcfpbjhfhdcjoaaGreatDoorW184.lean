/-
  Forms of releases; releases written.
-/
import Derived.Test.YtcfpbjhfhdcjoaaGreatDoorW183
namespace Go.Proofs.YtcfpbjhfhdcjoaaGreatDoor
open Go.RowKit
set_option linter.unusedVariables false
set_option maxHeartbeats 1000000 in
theorem sealLine_any (s : ByteArray) (w : World) (hs : s.size ≤ 1000) : Calls Tryz.prog 15 #[.string s] w fun e w' => e = .returned (.string (mkT ([115, 101, 97, 108, 32] ++ bl s ++ [10]))) ∧ w' = w := by
  have HF : Hid ((⟨#[115, 101, 97, 108, 32]⟩ : ByteArray) ++ s ++ ⟨#[10]⟩ = mkT ([115, 101, 97, 108, 32] ++ bl s ++ [10])) := by
    show _ ++ s ++ _ = _
    apply ByteArray.ext
    simp [mkT, bl]
  obtain ⟨FT, hFT⟩ : ∃ T, mkT ([115, 101, 97, 108, 32] ++ bl s ++ [10]) = T := ⟨_, rfl⟩
  rw [hFT] at HF ⊢
  clear hFT
  go_enter Tryz.func15, Tryz.ntmps15
  go_wp2
  go_ret
  exact ⟨by rw [← HF.out]; rfl, rfl⟩
set_option maxRecDepth 100000 in
set_option maxHeartbeats 4000000 in
theorem formOk_any (w : World) (v : Value) (x : ReleaseM) (h : ReleaseAt w v x) : Calls Tryz.prog 13 #[v] w fun e w' => e = .returned (.bool (formT x)) ∧ Below w.heap.size w w' := by
  obtain ⟨vg, vc, vl, rfl, h1, h2, h3, hu, he, tb⟩ := h
  obtain ⟨a, c, rfl, -⟩ := h1.form
  obtain ⟨a1, c1, rfl, -⟩ := h2.form
  obtain ⟨a2, c2, rfl, -⟩ := h3.form
  obtain ⟨n, ⟨gs, es, af, xs⟩, su, se⟩ := x
  dsimp only at hu he
  have HD : Hid (TextsAt w (.slice a gs.length c) gs ∧ EntsAt w (.slice a1 es.length c1) es ∧ AffsAt w (.slice a2 xs.length c2) xs ∧ powTab w) := ⟨h1, h2, h3, tb⟩
  have HR : Hid (ReleaseAt w (.agg #[.int .i64 n, .slice a gs.length c, .slice a1 es.length c1, .bool af, .slice a2 xs.length c2, .string su, .string se]) (n, (gs, es, af, xs), su, se)) := ⟨_, _, _, rfl, h1, h2, h3, hu, he, tb⟩
  have HU : Hid (su.size ≤ maxLen ∧ se.size ≤ maxLen) := ⟨hu, he⟩
  have HB0 : Hid (Below w.heap.size w (w.alloc (.cells #[.int .i64 n, .slice a gs.length c, .slice a1 es.length c1, .bool af, .slice a2 xs.length c2, .string su, .string se] 36))) := (Below.refl _ _).alloc (Nat.le_refl _) _
  clear h1 h2 h3 tb hu he
  by_cases a0 : 1 ≤ n
  · by_cases b0 : n ≤ 999999
    · cases hD : deltaT gs es af xs with
      | false =>
        have HF : Hid (formT (n, (gs, es, af, xs), su, se) = false) := by show formT _ = _; simp [formT, hD]
        go_enter Tryz.func13, Tryz.ntmps13
        go_wp2_with fail
        refine (implDeltaOk_any _ _ _ _ af gs es xs (HD.out.1.below HB0.out) (HD.out.2.1.below HB0.out) (HD.out.2.2.1.below HB0.out)).mono ?_
        rintro e w1 ⟨rfl, hb1⟩
        rw [hD]
        have HB1 : Hid (Below w.heap.size w w1) := HB0.out.trans (hb1.mono HB0.out.size)
        clear hb1
        go_wp2
        go_ret
        exact ⟨ret_bool HF.out.symm, HB1.out⟩
      | true =>
        have HOK : Hid (deltaT gs es af xs = true) := hD
        go_enter Tryz.func13, Tryz.ntmps13
        go_wp2_with fail
        refine (implDeltaOk_any _ _ _ _ af gs es xs (HD.out.1.below HB0.out) (HD.out.2.1.below HB0.out) (HD.out.2.2.1.below HB0.out)).mono ?_
        rintro e w1 ⟨rfl, hb1⟩
        rw [hD]
        have HB1 : Hid (Below w.heap.size w w1) := HB0.out.trans (hb1.mono HB0.out.size)
        have k0 : w1.cell? ⟨w.heap.size, 0, none⟩ = some (.int .i64 n) := (hb1.cell (p := ⟨w.heap.size, 0, none⟩) (by simp)).trans (by simp [go_sem])
        have k1 : w1.cell? ⟨w.heap.size, 1, none⟩ = some (.slice a gs.length c) := (hb1.cell (p := ⟨w.heap.size, 1, none⟩) (by simp)).trans (by simp [go_sem])
        have k2 : w1.cell? ⟨w.heap.size, 2, none⟩ = some (.slice a1 es.length c1) := (hb1.cell (p := ⟨w.heap.size, 2, none⟩) (by simp)).trans (by simp [go_sem])
        have k3 : w1.cell? ⟨w.heap.size, 3, none⟩ = some (.bool af) := (hb1.cell (p := ⟨w.heap.size, 3, none⟩) (by simp)).trans (by simp [go_sem])
        have k4 : w1.cell? ⟨w.heap.size, 4, none⟩ = some (.slice a2 xs.length c2) := (hb1.cell (p := ⟨w.heap.size, 4, none⟩) (by simp)).trans (by simp [go_sem])
        have k5 : w1.cell? ⟨w.heap.size, 5, none⟩ = some (.string su) := (hb1.cell (p := ⟨w.heap.size, 5, none⟩) (by simp)).trans (by simp [go_sem])
        have k6 : w1.cell? ⟨w.heap.size, 6, none⟩ = some (.string se) := (hb1.cell (p := ⟨w.heap.size, 6, none⟩) (by simp)).trans (by simp [go_sem])
        have hz1 : w.heap.size < w1.heap.size := by have := hb1.size; simp at this; omega
        clear hb1
        go_wp2_with fail
        refine (sumOk_any su _ HU.out.1).mono ?_
        rintro e w2 ⟨rfl, hw2⟩
        have hw3 := hw2.symm
        clear hw2
        subst hw3
        cases hS : sumT su with
        | false =>
          have HF : Hid (formT (n, (gs, es, af, xs), su, se) = false) := by show formT _ = _; simp [formT, hS]
          go_wp2
          go_ret
          exact ⟨ret_bool HF.out.symm, HB1.out⟩
        | true =>
          go_wp2_with fail
          refine (sumOk_any se _ HU.out.2).mono ?_
          rintro e w2 ⟨rfl, hw2⟩
          have hw3 := hw2.symm
          clear hw2
          subst hw3
          cases hE : sumT se with
          | false =>
            have HF : Hid (formT (n, (gs, es, af, xs), su, se) = false) := by show formT _ = _; simp [formT, hE]
            go_wp2
            go_ret
            exact ⟨ret_bool HF.out.symm, HB1.out⟩
          | true =>
            have h64 : su.size ≤ 64 := by simp only [sumT, Bool.and_eq_true, decide_eq_true_eq] at hS; omega
            have HF : Hid (formT (n, (gs, es, af, xs), su, se) = decide ((relL (n, (gs, es, af, xs), su, se)).length ≤ 1200)) := by show formT _ = _; simp [formT, hE, hS, hD, a0, b0]
            obtain ⟨RT, hRT⟩ : ∃ T, mkT (relL (n, (gs, es, af, xs), su, se)) = T := ⟨_, rfl⟩
            have hrs : (relL (n, (gs, es, af, xs), su, se)).length = RT.size := by rw [← hRT, mk_size]
            rw [hrs] at HF
            have HRT : Hid (mkT (relL (n, (gs, es, af, xs), su, se)) = RT) := hRT
            have hr9 : RT.size ≤ 300000 := by
              rw [← hrs]
              have h5 := dputL_len hD
              have h6 := itoa_len a0 b0
              simp only [relL, List.length_append, List.length_cons, List.length_nil, bl_length]
              omega
            clear hRT hrs
            go_wp2_with fail
            refine (releaseText_any _ _ (n, (gs, es, af, xs), su, se) (HR.out.below HB1.out) a0 b0 HOK.out h64).mono ?_
            rintro e w2 ⟨rfl, hb2⟩
            rw [HRT.out]
            have HB2 : Hid (Below w.heap.size w w2) := HB1.out.trans (hb2.mono HB1.out.size)
            clear hb2
            by_cases h12 : RT.size ≤ 1200
            · have h12' : (RT.size : Int) ≤ 1200 := by omega
              have HG : Hid (formT (n, (gs, es, af, xs), su, se) = true) := by show formT _ = _; rw [HF.out]; simpa using h12
              go_wp2
              go_ret
              exact ⟨ret_bool HG.out.symm, HB2.out⟩
            · have h12' : ¬ (RT.size : Int) ≤ 1200 := by omega
              have HG : Hid (formT (n, (gs, es, af, xs), su, se) = false) := by show formT _ = _; rw [HF.out]; simpa using h12
              go_wp2
              go_ret
              exact ⟨ret_bool (by rw [HG.out]; exact decide_eq_false (by omega)), HB2.out⟩
    · have HF : Hid (formT (n, (gs, es, af, xs), su, se) = false) := by show formT _ = _; simp [formT, b0]
      go_enter Tryz.func13, Tryz.ntmps13
      go_wp2
      go_ret
      exact ⟨ret_bool HF.out.symm, HB0.out⟩
  · have HF : Hid (formT (n, (gs, es, af, xs), su, se) = false) := by show formT _ = _; simp [formT, a0]
    go_enter Tryz.func13, Tryz.ntmps13
    go_wp2
    go_ret
    exact ⟨ret_bool HF.out.symm, HB0.out⟩
theorem form_parts {x : ReleaseM} (h : formT x = true) : (1 ≤ x.1 ∧ x.1 ≤ 999999) ∧ deltaT x.2.1.1 x.2.1.2.1 x.2.1.2.2.1 x.2.1.2.2.2 = true ∧ x.2.2.1.size = 64 ∧ x.2.2.2.size = 64 ∧ (relL x).length ≤ 1200 := by
  simp only [formT, sumT, Bool.and_eq_true, decide_eq_true_eq] at h
  exact ⟨h.1, h.2.1, h.2.2.1.1, h.2.2.2.1.1, h.2.2.2.2⟩
set_option maxRecDepth 100000 in
set_option maxHeartbeats 4000000 in
theorem implReleasePut_any (w : World) (v : Value) (x : ReleaseM) (h : ReleaseAt w v x) : Calls Tryz.prog 7 #[v] w fun e w' => e = .returned (.string (rputT x)) ∧ Below w.heap.size w w' := by
  obtain ⟨vg, vc, vl, rfl, h1, h2, h3, hu, he, tb⟩ := h
  obtain ⟨a, c, rfl, -⟩ := h1.form
  obtain ⟨a1, c1, rfl, -⟩ := h2.form
  obtain ⟨a2, c2, rfl, -⟩ := h3.form
  obtain ⟨n, ⟨gs, es, af, xs⟩, su, se⟩ := x
  dsimp only at hu he
  have HD : Hid (TextsAt w (.slice a gs.length c) gs ∧ EntsAt w (.slice a1 es.length c1) es ∧ AffsAt w (.slice a2 xs.length c2) xs ∧ powTab w) := ⟨h1, h2, h3, tb⟩
  have HR : Hid (ReleaseAt w (.agg #[.int .i64 n, .slice a gs.length c, .slice a1 es.length c1, .bool af, .slice a2 xs.length c2, .string su, .string se]) (n, (gs, es, af, xs), su, se)) := ⟨_, _, _, rfl, h1, h2, h3, hu, he, tb⟩
  have HU : Hid (su.size ≤ maxLen ∧ se.size ≤ maxLen) := ⟨hu, he⟩
  have HB0 : Hid (Below w.heap.size w (w.alloc (.cells #[.int .i64 n, .slice a gs.length c, .slice a1 es.length c1, .bool af, .slice a2 xs.length c2, .string su, .string se] 36))) := (Below.refl _ _).alloc (Nat.le_refl _) _
  clear h1 h2 h3 tb hu he
  cases hF : formT (n, (gs, es, af, xs), su, se) with
  | false =>
    have HF : Hid (rputT (n, (gs, es, af, xs), su, se) = ⟨#[]⟩) := if_neg (by rw [hF]; decide)
    go_enter Tryz.func7, Tryz.ntmps7
    go_wp2_with fail
    refine (formOk_any _ _ (n, (gs, es, af, xs), su, se) (HR.out.below HB0.out)).mono ?_
    rintro e w1 ⟨rfl, hb1⟩
    rw [hF]
    have HB1 : Hid (Below w.heap.size w w1) := HB0.out.trans (hb1.mono HB0.out.size)
    clear hb1
    go_wp2
    go_ret
    rw [HF.out]
    exact ⟨rfl, HB1.out⟩
  | true =>
    obtain ⟨⟨q1, q2⟩, q3, q4, q5, q6⟩ := form_parts hF
    dsimp only at q1 q2 q3 q4 q5
    obtain ⟨RT, hRT⟩ : ∃ T, mkT (relL (n, (gs, es, af, xs), su, se)) = T := ⟨_, rfl⟩
    obtain ⟨ST, hST⟩ : ∃ T, mkT ([115, 101, 97, 108, 32] ++ bl se ++ [10]) = T := ⟨_, rfl⟩
    have hr9 : RT.size ≤ 1200 := by rw [← hRT, mk_size]; exact q6
    have hs9 : ST.size ≤ 80 := by rw [← hST, mk_size]; simp only [List.length_append, List.length_cons, List.length_nil, bl_length]; omega
    obtain ⟨FT, hFT⟩ : ∃ T, RT ++ ST = T := ⟨_, rfl⟩
    have HF : Hid (rputT (n, (gs, es, af, xs), su, se) = FT) := by
      show rputT _ = FT
      unfold rputT
      rw [if_pos hF, ← hFT, ← hRT, ← hST, app_mk]
    have r1 : ∀ w : World, (Op.stringOp .add RT ST).run Tryz.prog w = .ok (.string FT) w := fun w => by rw [run_string_add_sum w _ _ (by omega), hFT]
    have HRT : Hid (mkT (relL (n, (gs, es, af, xs), su, se)) = RT) := hRT
    have HST : Hid (mkT ([115, 101, 97, 108, 32] ++ bl se ++ [10]) = ST) := hST
    have HQ : Hid ((1 ≤ n ∧ n ≤ 999999) ∧ deltaT gs es af xs = true ∧ su.size ≤ 64 ∧ se.size ≤ 1000) := ⟨⟨q1, q2⟩, q3, by omega, by omega⟩
    clear hRT hST hFT q1 q2 q3 q4 q5 q6 hr9 hs9
    go_enter Tryz.func7, Tryz.ntmps7
    go_wp2_with fail
    refine (formOk_any _ _ (n, (gs, es, af, xs), su, se) (HR.out.below HB0.out)).mono ?_
    rintro e w1 ⟨rfl, hb1⟩
    rw [hF]
    have HB1 : Hid (Below w.heap.size w w1) := HB0.out.trans (hb1.mono HB0.out.size)
    have k0 : w1.cell? ⟨w.heap.size, 0, none⟩ = some (.int .i64 n) := (hb1.cell (p := ⟨w.heap.size, 0, none⟩) (by simp)).trans (by simp [go_sem])
    have k1 : w1.cell? ⟨w.heap.size, 1, none⟩ = some (.slice a gs.length c) := (hb1.cell (p := ⟨w.heap.size, 1, none⟩) (by simp)).trans (by simp [go_sem])
    have k2 : w1.cell? ⟨w.heap.size, 2, none⟩ = some (.slice a1 es.length c1) := (hb1.cell (p := ⟨w.heap.size, 2, none⟩) (by simp)).trans (by simp [go_sem])
    have k3 : w1.cell? ⟨w.heap.size, 3, none⟩ = some (.bool af) := (hb1.cell (p := ⟨w.heap.size, 3, none⟩) (by simp)).trans (by simp [go_sem])
    have k4 : w1.cell? ⟨w.heap.size, 4, none⟩ = some (.slice a2 xs.length c2) := (hb1.cell (p := ⟨w.heap.size, 4, none⟩) (by simp)).trans (by simp [go_sem])
    have k5 : w1.cell? ⟨w.heap.size, 5, none⟩ = some (.string su) := (hb1.cell (p := ⟨w.heap.size, 5, none⟩) (by simp)).trans (by simp [go_sem])
    have k6 : w1.cell? ⟨w.heap.size, 6, none⟩ = some (.string se) := (hb1.cell (p := ⟨w.heap.size, 6, none⟩) (by simp)).trans (by simp [go_sem])
    have hz1 : w.heap.size < w1.heap.size := by have := hb1.size; simp at this; omega
    have HX1 : Hid (Below w.heap.size w w1.drew) := HB1.out.drew
    clear hb1
    go_wp2_with fail
    go_region_held3 (fun w' => w'.cell? ⟨w.heap.size, 0, none⟩ = some (.int .i64 n) ∧ w'.cell? ⟨w.heap.size, 1, none⟩ = some (.slice a gs.length c) ∧ w'.cell? ⟨w.heap.size, 2, none⟩ = some (.slice a1 es.length c1) ∧ w'.cell? ⟨w.heap.size, 3, none⟩ = some (.bool af) ∧ w'.cell? ⟨w.heap.size, 4, none⟩ = some (.slice a2 xs.length c2) ∧ w'.cell? ⟨w.heap.size, 5, none⟩ = some (.string su) ∧ w'.cell? ⟨w.heap.size, 6, none⟩ = some (.string se)) (go_keep)
      (first
        | (have qm := HB2; clear qm; go_at_call 15; refine (sealLine_any se _ HQ.out.2.2.2).mono ?_; rintro e w3 ⟨rfl, hw3⟩; rw [HST.out]; have hw4 := hw3.symm; clear hw3; subst hw4)
        | (go_at_call 14; refine (releaseText_any _ _ (n, (gs, es, af, xs), su, se) (HR.out.below HX1.out) HQ.out.1.1 HQ.out.1.2 HQ.out.2.1 HQ.out.2.2.1).mono ?_; rintro e w2 ⟨rfl, hb2⟩; rw [HRT.out]; have HB2 : Hid (Below w.heap.size w w2) := HX1.out.trans (hb2.mono HX1.out.size); have j0 := (hb2.cell (p := ⟨w.heap.size, 0, none⟩) hz1).trans k0; have j1 := (hb2.cell (p := ⟨w.heap.size, 1, none⟩) hz1).trans k1; have j2 := (hb2.cell (p := ⟨w.heap.size, 2, none⟩) hz1).trans k2; have j3 := (hb2.cell (p := ⟨w.heap.size, 3, none⟩) hz1).trans k3; have j4 := (hb2.cell (p := ⟨w.heap.size, 4, none⟩) hz1).trans k4; have j5 := (hb2.cell (p := ⟨w.heap.size, 5, none⟩) hz1).trans k5; have j6 := (hb2.cell (p := ⟨w.heap.size, 6, none⟩) hz1).trans k6; clear hb2 k0 k1 k2 k3 k4 k5 k6))
    all_goals
      go_wp2
      go_ret
      rw [HF.out]
      exact ⟨rfl, HB2.out⟩
end Go.Proofs.YtcfpbjhfhdcjoaaGreatDoor
