/-
  Texts of releases.
-/
import Derived.Test.YtkepmjebnkcbgaaGreatDoorGW486
import Derived.Test.YtkepmjebnkcbgaaGreatDoorW181
import Derived.Test.YtkepmjebnkcbgaaGreatDoorGW182
import Derived.Test.YtkepmjebnkcbgaaGreatDoorGW118
import Derived.Test.YtkepmjebnkcbgaaGreatDoorGW2
import Derived.Lib.AppendIntMem
import Derived.Deep.RegionHeld3
namespace Go.Proofs.YtkepmjebnkcbgaaGreatDoor
open Go.RowKit
set_option linter.unusedVariables false
/-- The text that is sealed. -/
def relL (x : ReleaseM) : List UInt8 := [114, 101, 108, 101, 97, 115, 101, 32] ++ Lib.itoa x.1 ++ (32 :: bl x.2.2.1) ++ (10 :: dputL x.2.1.1 x.2.1.2.1 x.2.1.2.2.1 x.2.1.2.2.2)
def formT (x : ReleaseM) : Bool := (decide (1 ≤ x.1) && decide (x.1 ≤ 999999)) && (deltaT x.2.1.1 x.2.1.2.1 x.2.1.2.2.1 x.2.1.2.2.2 && (sumT x.2.2.1 && (sumT x.2.2.2 && decide ((relL x).length ≤ 1200))))
theorem dputL_len {gs : List ByteArray} {es : List (ByteArray × ByteArray)} {af : Bool} {xs : List Aff} (hok : deltaT gs es af xs = true) : (dputL gs es af xs).length ≤ 200000 := by
  obtain ⟨⟨hl8, hl24, hlg⟩, hsa, hse, hsg⟩ := delta_parts hok
  have h1 := headD_length af
  have h2 := putA_length hsa xs.length (Nat.le_refl _)
  have h3 := putG_length hsg gs.length (Nat.le_refl _)
  have h4 := putC_length hse es.length (Nat.le_refl _)
  rw [List.take_length] at h2 h3 h4
  unfold dputL
  simp only [List.length_append]
  omega
theorem app_mk (a b : List UInt8) : mkT a ++ mkT b = mkT (a ++ b) := by
  unfold mkT
  apply ByteArray.ext
  simp
theorem boxed_lt {w w' : World} {cs : Array Value} {t : TypeId} (h : Below (w.alloc (.cells cs t)).drew.heap.size (w.alloc (.cells cs t)).drew w') : w.heap.size < w'.heap.size := by
  have h1 := h.size
  have h2 : (w.alloc (.cells cs t)).drew.heap.size = w.heap.size + 1 := World.size_alloc _ _
  omega
theorem box_keep {w w' : World} {cs : Array Value} {t : TypeId} (h : Below (w.alloc (.cells cs t)).drew.heap.size (w.alloc (.cells cs t)).drew w') (i : Nat) : w'.cell? ⟨w.heap.size, i, none⟩ = cs[i]? := by
  have h2 : (w.alloc (.cells cs t)).drew.heap.size = w.heap.size + 1 := World.size_alloc _ _
  refine (h.cell (p := ⟨w.heap.size, i, none⟩) (by rw [h2]; exact Nat.lt_succ_self _)).trans ?_
  show (w.alloc (.cells cs t)).cell? _ = _
  rw [cell_of_row _ _ i _ _ _ (heap_alloc_last _ _)]
def joinT (a b : ByteArray) : Nat → ByteArray
  | 0 => ⟨#[114, 101, 108, 101, 97, 115, 101]⟩
  | 1 => a
  | _ => b
theorem joinT_cells (w : World) (a b : ByteArray) (t : TypeId) : ∀ k, k < 3 → (w.alloc (.cells #[.string ⟨#[114, 101, 108, 101, 97, 115, 101]⟩, .string a, .string b] t)).cell? ⟨w.heap.size, k, none⟩ = some (.string (joinT a b k)) := by
  intro k hk
  rw [cell_of_row _ _ k _ _ _ (heap_alloc_last _ _)]
  match k, hk with
  | 0, _ => rfl
  | 1, _ => rfl
  | 2, _ => rfl
theorem keep_past {w w' : World} {o : Obj} (h : Below (w.alloc o).heap.size (w.alloc o) w') {p : Addr} (hp : p.block < w.heap.size) : w'.cell? p = w.cell? p := by
  refine (h.cell (by rw [World.size_alloc]; omega)).trans ?_
  exact ((Below.refl w.heap.size w).alloc (Nat.le_refl _) o).cell hp
theorem below_past {w w' : World} {o : Obj} (h : Below (w.alloc o).heap.size (w.alloc o) w') : Below w.heap.size w w' := below_any h ((Below.refl _ _).alloc (Nat.le_refl _) _)
theorem itoa_len {n : Int} (h0 : 1 ≤ n) (h1 : n ≤ 999999) : (Lib.itoa n).length ≤ 21 := Lib.itoa_length_le _ (by omega) (by omega)
theorem itoa_any (n : Int) (w : World) (h0 : 1 ≤ n) (h1 : n ≤ 999999) (ht : powTab w) : Calls Tryz.prog 97 #[.int .i64 n] w fun e w' => e = .returned (.string (mkT (Lib.itoa n))) ∧ Below w.heap.size w w' := by
  refine (Tryz.strconv_Itoa n (by omega) (by omega) w ht).mono ?_
  rintro e w1 ⟨rfl, k, os, rfl⟩
  exact ⟨rfl, Lib.below_grow _ _ (Nat.le_refl _) _ _⟩
set_option maxRecDepth 100000 in
set_option maxHeartbeats 2000000 in
theorem releaseText_any (w : World) (v : Value) (x : ReleaseM) (h : ReleaseAt w v x) (hn0 : 1 ≤ x.1) (hn1 : x.1 ≤ 999999) (hok : deltaT x.2.1.1 x.2.1.2.1 x.2.1.2.2.1 x.2.1.2.2.2 = true) (hsu : x.2.2.1.size ≤ 64) :
    Calls Tryz.prog 57 #[v] w fun e w' => e = .returned (.string (mkT (relL x))) ∧ Below w.heap.size w w' := by
  obtain ⟨vg, vc, vl, rfl, h1, h2, h3, hu, he, tb⟩ := h
  obtain ⟨a, c, rfl, -⟩ := h1.form
  obtain ⟨a1, c1, rfl, -⟩ := h2.form
  obtain ⟨a2, c2, rfl, -⟩ := h3.form
  obtain ⟨n, ⟨gs, es, af, xs⟩, su, se⟩ := x
  dsimp only at *
  have HD : Hid (TextsAt w (.slice a gs.length c) gs ∧ EntsAt w (.slice a1 es.length c1) es ∧ AffsAt w (.slice a2 xs.length c2) xs ∧ powTab w) := ⟨h1, h2, h3, tb⟩
  have HLD : Hid ((dputL gs es af xs).length ≤ 200000) := dputL_len hok
  have HDT : Hid (dputT gs es af xs = mkT (dputL gs es af xs)) := if_pos hok
  have hil := itoa_len hn0 hn1
  obtain ⟨IT, hIT⟩ : ∃ T, mkT (Lib.itoa n) = T := ⟨_, rfl⟩
  obtain ⟨DT, hDT⟩ : ∃ T, dputT gs es af xs = T := ⟨_, rfl⟩
  have hit : IT.size ≤ 21 := by rw [← hIT, mk_size]; exact hil
  have hdt : DT.size ≤ 200000 := by rw [← hDT, HDT.out, mk_size]; exact HLD.out
  have HJ : Hid (∀ k, k < 3 → (joinT IT su k).size ≤ 10000000) := by
    intro k hk
    match k, hk with
    | 0, _ => show 7 ≤ 10000000; decide
    | 1, _ => show IT.size ≤ 10000000; omega
    | 2, _ => show su.size ≤ 10000000; omega
  obtain ⟨JT, hJT⟩ : ∃ T : ByteArray, (⟨(accJ (joinT IT su) 2).toArray⟩ : ByteArray) = T := ⟨_, rfl⟩
  have hjt : JT.size ≤ 200 := by
    rw [← hJT, size_toArr]
    simp only [accJ, List.length_append, List.length_cons, bl_length]
    show 7 + (IT.size + 1) + (su.size + 1) ≤ 200
    omega
  have HF : Hid (JT ++ ⟨#[10]⟩ ++ DT = mkT (relL (n, (gs, es, af, xs), su, se))) := by
    show JT ++ _ ++ DT = _
    rw [← hJT, ← hDT, HDT.out]
    have e1 : (⟨#[10]⟩ : ByteArray) = mkT [10] := rfl
    have e2 : (⟨(accJ (joinT IT su) 2).toArray⟩ : ByteArray) = mkT (accJ (joinT IT su) 2) := rfl
    rw [e1, e2, app_mk, app_mk]
    congr 1
    have e3 : bl IT = Lib.itoa n := by rw [← hIT, bl_mk]
    have e4 : IT.data.toList = Lib.itoa n := e3
    simp only [accJ, relL]
    simp [bl, joinT, e4]
  have HB0 : Hid (Below w.heap.size w (World.drew (w.alloc (.cells #[.int .i64 n, .slice a gs.length c, .slice a1 es.length c1, .bool af, .slice a2 xs.length c2, .string su, .string se] 37)))) := ((Below.refl _ _).alloc (Nat.le_refl _) _).drew
  have HIT : Hid (mkT (Lib.itoa n) = IT) := hIT
  have HDT2 : Hid (dputT gs es af xs = DT) := hDT
  have HJT : Hid (_ = JT) := hJT
  obtain ⟨J1, hJ1⟩ : ∃ T, JT ++ ⟨#[10]⟩ = T := ⟨_, rfl⟩
  have sz1 : J1.size ≤ 201 := by rw [← hJ1, ByteArray.size_append]; show JT.size + 1 ≤ 201; omega
  obtain ⟨RT, hRT⟩ : ∃ T, J1 ++ DT = T := ⟨_, rfl⟩
  have HRT : Hid (RT = mkT (relL (n, (gs, es, af, xs), su, se))) := by show RT = _; rw [← hRT, ← hJ1]; exact HF.out
  have r1 : ∀ w : World, (Op.stringOp .add JT ⟨#[10]⟩).run Tryz.prog w = .ok (.string J1) w := fun w => by rw [run_string_add_sum w _ _ (show JT.size + 1 ≤ 9223372036854775807 by omega), hJ1]
  have r2 : ∀ w : World, (Op.stringOp .add J1 DT).run Tryz.prog w = .ok (.string RT) w := fun w => by rw [run_string_add_sum w _ _ (by omega), hRT]
  clear hJ1 hRT hjt hdt sz1
  clear h1 h2 h3 tb hIT hDT hJT hil
  go_enter Tryz.func57, Tryz.ntmps57
  go_wp2_with fail
  go_region_held3 (fun w' => w'.cell? ⟨w.heap.size, 0, none⟩ = some (.int .i64 n) ∧ w'.cell? ⟨w.heap.size, 1, none⟩ = some (.slice a gs.length c) ∧ w'.cell? ⟨w.heap.size, 2, none⟩ = some (.slice a1 es.length c1) ∧ w'.cell? ⟨w.heap.size, 3, none⟩ = some (.bool af) ∧ w'.cell? ⟨w.heap.size, 4, none⟩ = some (.slice a2 xs.length c2) ∧ w'.cell? ⟨w.heap.size, 5, none⟩ = some (.string su)) (go_keep)
    (first
      | (have qm := HB2; clear qm; go_at_call 98; refine (implDeltaPut_any _ _ _ _ af gs es xs (HD.out.1.below HB2.out) (HD.out.2.1.below HB2.out) (HD.out.2.2.1.below HB2.out)).mono ?_; rintro e w3 ⟨rfl, hb3⟩; rw [HDT2.out]; have HB3 : Hid (Below w.heap.size w w3) := HB2.out.trans (hb3.mono HB2.out.size); have l0 := (hb3.cell (p := ⟨w.heap.size, 0, none⟩) hz2).trans j0; have l1 := (hb3.cell (p := ⟨w.heap.size, 1, none⟩) hz2).trans j1; have l2 := (hb3.cell (p := ⟨w.heap.size, 2, none⟩) hz2).trans j2; have l3 := (hb3.cell (p := ⟨w.heap.size, 3, none⟩) hz2).trans j3; have l4 := (hb3.cell (p := ⟨w.heap.size, 4, none⟩) hz2).trans j4; have l5 := (hb3.cell (p := ⟨w.heap.size, 5, none⟩) hz2).trans j5; clear hb3 j0 j1 j2 j3 j4 j5)
      | (have qm := HB1; clear qm; go_at_call 96; refine (join3_any _ w1.heap.size (joinT IT su) HJ.out (by simp) (joinT_cells w1 IT su _)).mono ?_; rintro e w2 ⟨rfl, hb2⟩; rw [HJT.out]; have HB2 : Hid (Below w.heap.size w w2) := HB1.out.trans ((below_past hb2).mono HB1.out.size); have hz2 : w.heap.size < w2.heap.size := Nat.lt_of_lt_of_le hz1 (below_past hb2).size; have j0 := (keep_past hb2 (p := ⟨w.heap.size, 0, none⟩) hz1).trans k0; have j1 := (keep_past hb2 (p := ⟨w.heap.size, 1, none⟩) hz1).trans k1; have j2 := (keep_past hb2 (p := ⟨w.heap.size, 2, none⟩) hz1).trans k2; have j3 := (keep_past hb2 (p := ⟨w.heap.size, 3, none⟩) hz1).trans k3; have j4 := (keep_past hb2 (p := ⟨w.heap.size, 4, none⟩) hz1).trans k4; have j5 := (keep_past hb2 (p := ⟨w.heap.size, 5, none⟩) hz1).trans k5; clear hb2 k0 k1 k2 k3 k4 k5)
      | (go_at_call 97; refine (itoa_any n _ hn0 hn1 (HD.out.2.2.2.below HB0.out)).mono ?_; rintro e w1 ⟨rfl, hb1⟩; rw [HIT.out]; have HB1 : Hid (Below w.heap.size w w1) := HB0.out.trans (hb1.mono HB0.out.size); have hz1 : w.heap.size < w1.heap.size := boxed_lt hb1; have k0 := box_keep hb1 0; have k1 := box_keep hb1 1; have k2 := box_keep hb1 2; have k3 := box_keep hb1 3; have k4 := box_keep hb1 4; have k5 := box_keep hb1 5; clear hb1))
  all_goals
    go_wp2
    go_ret
    exact ⟨by rw [← HRT.out]; rfl, HB3.out⟩
end Go.Proofs.YtkepmjebnkcbgaaGreatDoor
/-
  Forms of releases; releases written.
-/
namespace Go.Proofs.YtkepmjebnkcbgaaGreatDoor
open Go.RowKit
set_option linter.unusedVariables false
set_option maxRecDepth 100000 in
set_option maxHeartbeats 4000000 in
theorem formOk_any (w : World) (v : Value) (x : ReleaseM) (h : ReleaseAt w v x) : Calls Tryz.prog 58 #[v] w fun e w' => e = .returned (.bool (formT x)) ∧ Below w.heap.size w w' := by
  obtain ⟨vg, vc, vl, rfl, h1, h2, h3, hu, he, tb⟩ := h
  obtain ⟨a, c, rfl, -⟩ := h1.form
  obtain ⟨a1, c1, rfl, -⟩ := h2.form
  obtain ⟨a2, c2, rfl, -⟩ := h3.form
  obtain ⟨n, ⟨gs, es, af, xs⟩, su, se⟩ := x
  dsimp only at hu he
  have HD : Hid (TextsAt w (.slice a gs.length c) gs ∧ EntsAt w (.slice a1 es.length c1) es ∧ AffsAt w (.slice a2 xs.length c2) xs ∧ powTab w) := ⟨h1, h2, h3, tb⟩
  have HR : Hid (ReleaseAt w (.agg #[.int .i64 n, .slice a gs.length c, .slice a1 es.length c1, .bool af, .slice a2 xs.length c2, .string su, .string se]) (n, (gs, es, af, xs), su, se)) := ⟨_, _, _, rfl, h1, h2, h3, hu, he, tb⟩
  have HU : Hid (su.size ≤ maxLen ∧ se.size ≤ maxLen) := ⟨hu, he⟩
  have HB0 : Hid (Below w.heap.size w (w.alloc (.cells #[.int .i64 n, .slice a gs.length c, .slice a1 es.length c1, .bool af, .slice a2 xs.length c2, .string su, .string se] 37))) := (Below.refl _ _).alloc (Nat.le_refl _) _
  clear h1 h2 h3 tb hu he
  by_cases a0 : 1 ≤ n
  · by_cases b0 : n ≤ 999999
    · cases hD : deltaT gs es af xs with
      | false =>
        have HF : Hid (formT (n, (gs, es, af, xs), su, se) = false) := by show formT _ = _; simp [formT, hD]
        go_enter Tryz.func58, Tryz.ntmps58
        go_wp2_with fail
        refine (implDeltaOk_any _ _ _ _ af gs es xs (HD.out.1.below HB0.out) (HD.out.2.1.below HB0.out) (HD.out.2.2.1.below HB0.out)).mono ?_
        rintro e w1 ⟨rfl, hb1⟩
        rw [hD]
        have HB1 : Hid (Below w.heap.size w w1) := HB0.out.trans (hb1.mono HB0.out.size)
        clear hb1
        go_wp2
        go_ret
        exact ⟨ret_bool HF.out.symm, HB1.out⟩
      | true =>
        have HOK : Hid (deltaT gs es af xs = true) := hD
        go_enter Tryz.func58, Tryz.ntmps58
        go_wp2_with fail
        refine (implDeltaOk_any _ _ _ _ af gs es xs (HD.out.1.below HB0.out) (HD.out.2.1.below HB0.out) (HD.out.2.2.1.below HB0.out)).mono ?_
        rintro e w1 ⟨rfl, hb1⟩
        rw [hD]
        have HB1 : Hid (Below w.heap.size w w1) := HB0.out.trans (hb1.mono HB0.out.size)
        have k0 : w1.cell? ⟨w.heap.size, 0, none⟩ = some (.int .i64 n) := (hb1.cell (p := ⟨w.heap.size, 0, none⟩) (by simp)).trans (by simp [go_sem])
        have k1 : w1.cell? ⟨w.heap.size, 1, none⟩ = some (.slice a gs.length c) := (hb1.cell (p := ⟨w.heap.size, 1, none⟩) (by simp)).trans (by simp [go_sem])
        have k2 : w1.cell? ⟨w.heap.size, 2, none⟩ = some (.slice a1 es.length c1) := (hb1.cell (p := ⟨w.heap.size, 2, none⟩) (by simp)).trans (by simp [go_sem])
        have k3 : w1.cell? ⟨w.heap.size, 3, none⟩ = some (.bool af) := (hb1.cell (p := ⟨w.heap.size, 3, none⟩) (by simp)).trans (by simp [go_sem])
        have k4 : w1.cell? ⟨w.heap.size, 4, none⟩ = some (.slice a2 xs.length c2) := (hb1.cell (p := ⟨w.heap.size, 4, none⟩) (by simp)).trans (by simp [go_sem])
        have k5 : w1.cell? ⟨w.heap.size, 5, none⟩ = some (.string su) := (hb1.cell (p := ⟨w.heap.size, 5, none⟩) (by simp)).trans (by simp [go_sem])
        have k6 : w1.cell? ⟨w.heap.size, 6, none⟩ = some (.string se) := (hb1.cell (p := ⟨w.heap.size, 6, none⟩) (by simp)).trans (by simp [go_sem])
        have hz1 : w.heap.size < w1.heap.size := by have := hb1.size; simp at this; omega
        clear hb1
        go_wp2_with fail
        refine (sumOk_any su _ HU.out.1).mono ?_
        rintro e w2 ⟨rfl, hw2⟩
        have hw3 := hw2.symm
        clear hw2
        subst hw3
        cases hS : sumT su with
        | false =>
          have HF : Hid (formT (n, (gs, es, af, xs), su, se) = false) := by show formT _ = _; simp [formT, hS]
          go_wp2
          go_ret
          exact ⟨ret_bool HF.out.symm, HB1.out⟩
        | true =>
          go_wp2_with fail
          refine (sumOk_any se _ HU.out.2).mono ?_
          rintro e w2 ⟨rfl, hw2⟩
          have hw3 := hw2.symm
          clear hw2
          subst hw3
          cases hE : sumT se with
          | false =>
            have HF : Hid (formT (n, (gs, es, af, xs), su, se) = false) := by show formT _ = _; simp [formT, hE]
            go_wp2
            go_ret
            exact ⟨ret_bool HF.out.symm, HB1.out⟩
          | true =>
            have h64 : su.size ≤ 64 := by simp only [sumT, Bool.and_eq_true, decide_eq_true_eq] at hS; omega
            have HF : Hid (formT (n, (gs, es, af, xs), su, se) = decide ((relL (n, (gs, es, af, xs), su, se)).length ≤ 1200)) := by show formT _ = _; simp [formT, hE, hS, hD, a0, b0]
            obtain ⟨RT, hRT⟩ : ∃ T, mkT (relL (n, (gs, es, af, xs), su, se)) = T := ⟨_, rfl⟩
            have hrs : (relL (n, (gs, es, af, xs), su, se)).length = RT.size := by rw [← hRT, mk_size]
            rw [hrs] at HF
            have HRT : Hid (mkT (relL (n, (gs, es, af, xs), su, se)) = RT) := hRT
            have hr9 : RT.size ≤ 300000 := by
              rw [← hrs]
              have h5 := dputL_len hD
              have h6 := itoa_len a0 b0
              simp only [relL, List.length_append, List.length_cons, List.length_nil, bl_length]
              omega
            clear hRT hrs
            go_wp2_with fail
            refine (releaseText_any _ _ (n, (gs, es, af, xs), su, se) (HR.out.below HB1.out) a0 b0 HOK.out h64).mono ?_
            rintro e w2 ⟨rfl, hb2⟩
            rw [HRT.out]
            have HB2 : Hid (Below w.heap.size w w2) := HB1.out.trans (hb2.mono HB1.out.size)
            clear hb2
            by_cases h12 : RT.size ≤ 1200
            · have h12' : (RT.size : Int) ≤ 1200 := by omega
              have HG : Hid (formT (n, (gs, es, af, xs), su, se) = true) := by show formT _ = _; rw [HF.out]; simpa using h12
              go_wp2
              go_ret
              exact ⟨ret_bool HG.out.symm, HB2.out⟩
            · have h12' : ¬ (RT.size : Int) ≤ 1200 := by omega
              have HG : Hid (formT (n, (gs, es, af, xs), su, se) = false) := by show formT _ = _; rw [HF.out]; simpa using h12
              go_wp2
              go_ret
              exact ⟨ret_bool (by rw [HG.out]; exact decide_eq_false (by omega)), HB2.out⟩
    · have HF : Hid (formT (n, (gs, es, af, xs), su, se) = false) := by show formT _ = _; simp [formT, b0]
      go_enter Tryz.func58, Tryz.ntmps58
      go_wp2
      go_ret
      exact ⟨ret_bool HF.out.symm, HB0.out⟩
  · have HF : Hid (formT (n, (gs, es, af, xs), su, se) = false) := by show formT _ = _; simp [formT, a0]
    go_enter Tryz.func58, Tryz.ntmps58
    go_wp2
    go_ret
    exact ⟨ret_bool HF.out.symm, HB0.out⟩
theorem form_parts {x : ReleaseM} (h : formT x = true) : (1 ≤ x.1 ∧ x.1 ≤ 999999) ∧ deltaT x.2.1.1 x.2.1.2.1 x.2.1.2.2.1 x.2.1.2.2.2 = true ∧ x.2.2.1.size = 64 ∧ x.2.2.2.size = 64 ∧ (relL x).length ≤ 1200 := by
  simp only [formT, sumT, Bool.and_eq_true, decide_eq_true_eq] at h
  exact ⟨h.1, h.2.1, h.2.2.1.1, h.2.2.2.1.1, h.2.2.2.2⟩
end Go.Proofs.YtkepmjebnkcbgaaGreatDoor
/-
  Texts and forms of releases, as the specification has them.
-/
namespace Go.Proofs.YtkepmjebnkcbgaaGreatDoor
open Go.RowKit
set_option linter.unusedVariables false
set_option maxRecDepth 100000 in
set_option maxHeartbeats 2000000 in
theorem l6Text_any (w : World) (v : Value) (x : ReleaseM) (h : ReleaseAt w v x) (hn0 : 1 ≤ x.1) (hn1 : x.1 ≤ 999999) (hok : deltaT x.2.1.1 x.2.1.2.1 x.2.1.2.2.1 x.2.1.2.2.2 = true) (hsu : x.2.2.1.size ≤ 64) :
    Calls Tryz.prog 49 #[v] w fun e w' => e = .returned (.string (mkT (relL x))) ∧ Below w.heap.size w w' := by
  obtain ⟨vg, vc, vl, rfl, h1, h2, h3, hu, he, tb⟩ := h
  obtain ⟨a, c, rfl, -⟩ := h1.form
  obtain ⟨a1, c1, rfl, -⟩ := h2.form
  obtain ⟨a2, c2, rfl, -⟩ := h3.form
  obtain ⟨n, ⟨gs, es, af, xs⟩, su, se⟩ := x
  dsimp only at hu he
  have HD : Hid (TextsAt w (.slice a gs.length c) gs ∧ EntsAt w (.slice a1 es.length c1) es ∧ AffsAt w (.slice a2 xs.length c2) xs ∧ powTab w) := ⟨h1, h2, h3, tb⟩
  have HR : Hid (ReleaseAt w (.agg #[.int .i64 n, .slice a gs.length c, .slice a1 es.length c1, .bool af, .slice a2 xs.length c2, .string su, .string se]) (n, (gs, es, af, xs), su, se)) := ⟨_, _, _, rfl, h1, h2, h3, hu, he, tb⟩
  have HU : Hid (su.size ≤ maxLen ∧ se.size ≤ maxLen) := ⟨hu, he⟩
  have HB0 : Hid (Below w.heap.size w (w.alloc (.cells #[.int .i64 n, .slice a gs.length c, .slice a1 es.length c1, .bool af, .slice a2 xs.length c2, .string su, .string se] 37))) := (Below.refl _ _).alloc (Nat.le_refl _) _
  clear h1 h2 h3 tb hu he
  dsimp only at hn0 hn1 hok hsu
  have hdl := dputL_len hok
  have hil := itoa_len hn0 hn1
  obtain ⟨m, hm⟩ : ∃ m : Nat, n = (m : Int) := ⟨n.toNat, by omega⟩
  have hm9 : m ≤ 999999 := by omega
  obtain ⟨IT, hIT⟩ : ∃ T : ByteArray, (⟨(Lib.itoa n).toArray⟩ : ByteArray) = T := ⟨_, rfl⟩
  obtain ⟨DT, hDT⟩ : ∃ T, mkT (dputL gs es af xs) = T := ⟨_, rfl⟩
  have hit : IT.size ≤ 21 := by rw [← hIT, size_toArr]; exact hil
  have hdt : DT.size ≤ 200000 := by rw [← hDT, mk_size]; exact hdl
  obtain ⟨T1, h1⟩ : ∃ T, (⟨#[114, 101, 108, 101, 97, 115, 101, 32]⟩ : ByteArray) ++ IT = T := ⟨_, rfl⟩
  have z1 : T1.size ≤ 30 := by rw [← h1, ByteArray.size_append]; show 8 + IT.size ≤ 30; omega
  obtain ⟨T2, h2⟩ : ∃ T, T1 ++ ⟨#[32]⟩ = T := ⟨_, rfl⟩
  have z2 : T2.size ≤ 31 := by rw [← h2, ByteArray.size_append]; show T1.size + 1 ≤ 31; omega
  obtain ⟨T3, h3⟩ : ∃ T, T2 ++ su = T := ⟨_, rfl⟩
  have z3 : T3.size ≤ 100 := by rw [← h3, ByteArray.size_append]; omega
  obtain ⟨T4, h4⟩ : ∃ T, T3 ++ ⟨#[10]⟩ = T := ⟨_, rfl⟩
  have z4 : T4.size ≤ 101 := by rw [← h4, ByteArray.size_append]; show T3.size + 1 ≤ 101; omega
  obtain ⟨T5, h5⟩ : ∃ T, T4 ++ DT = T := ⟨_, rfl⟩
  have HF : Hid (mkT (relL (n, (gs, es, af, xs), su, se)) = T5) := by
    show mkT _ = T5
    rw [← h5, ← h4, ← h3, ← h2, ← h1, ← hIT, ← hDT]
    apply ByteArray.ext
    simp [mkT, relL, bl]
  have r1 : ∀ w : World, (Op.stringOp .add ⟨#[114, 101, 108, 101, 97, 115, 101, 32]⟩ IT).run Tryz.prog w = .ok (.string T1) w := fun w => by rw [run_string_add_sum w ⟨#[114, 101, 108, 101, 97, 115, 101, 32]⟩ IT (show 8 + IT.size ≤ 9223372036854775807 by omega), h1]
  have r2 : ∀ w : World, (Op.stringOp .add T1 ⟨#[32]⟩).run Tryz.prog w = .ok (.string T2) w := fun w => by rw [run_string_add_sum w _ _ (show T1.size + 1 ≤ 9223372036854775807 by omega), h2]
  have r3 : ∀ w : World, (Op.stringOp .add T2 su).run Tryz.prog w = .ok (.string T3) w := fun w => by rw [run_string_add_sum w _ _ (by omega), h3]
  have r4 : ∀ w : World, (Op.stringOp .add T3 ⟨#[10]⟩).run Tryz.prog w = .ok (.string T4) w := fun w => by rw [run_string_add_sum w _ _ (show T3.size + 1 ≤ 9223372036854775807 by omega), h4]
  have r5 : ∀ w : World, (Op.stringOp .add T4 DT).run Tryz.prog w = .ok (.string T5) w := fun w => by rw [run_string_add_sum w _ _ (by omega), h5]
  have HC : Hid (∀ w : World, Calls Tryz.prog 79 #[.int .i64 n] w fun e w' => e = .returned (.string IT) ∧ Below w.heap.size w w') := by
    intro w
    have h := l1Dec_any m w hm9
    rw [← hm, hIT] at h
    exact h
  have HDT : Hid (mkT (dputL gs es af xs) = DT) := hDT
  have HOK : Hid (deltaT gs es af xs = true) := hok
  have HX : Hid (Below w.heap.size w (World.drew (w.alloc (.cells #[.int .i64 n, .slice a gs.length c, .slice a1 es.length c1, .bool af, .slice a2 xs.length c2, .string su, .string se] 37)))) := HB0.out.drew
  rw [HF.out]
  clear hIT hDT h1 h2 h3 h4 h5 z1 z2 z3 z4 hit hdt hdl hil hm hm9 hok hn0 hn1
  go_enter Tryz.func49, Tryz.ntmps49
  go_wp2_with fail
  go_region_held3 (fun w' => w'.cell? ⟨w.heap.size, 0, none⟩ = some (.int .i64 n) ∧ w'.cell? ⟨w.heap.size, 1, none⟩ = some (.slice a gs.length c) ∧ w'.cell? ⟨w.heap.size, 2, none⟩ = some (.slice a1 es.length c1) ∧ w'.cell? ⟨w.heap.size, 3, none⟩ = some (.bool af) ∧ w'.cell? ⟨w.heap.size, 4, none⟩ = some (.slice a2 xs.length c2) ∧ w'.cell? ⟨w.heap.size, 5, none⟩ = some (.string su)) (go_keep)
    (first
      | (have qm := HB1; clear qm; go_at_call 80; refine (l5Put_any _ _ _ _ af gs es xs (HD.out.1.below HB1.out) (HD.out.2.1.below HB1.out) (HD.out.2.2.1.below HB1.out) HOK.out).mono ?_; rintro e w3 ⟨rfl, hb3⟩; rw [HDT.out]; have HB3 : Hid (Below w.heap.size w w3) := HB1.out.trans (hb3.mono HB1.out.size); have j0 := (hb3.cell (p := ⟨w.heap.size, 0, none⟩) hz1).trans k0; have j1 := (hb3.cell (p := ⟨w.heap.size, 1, none⟩) hz1).trans k1; have j2 := (hb3.cell (p := ⟨w.heap.size, 2, none⟩) hz1).trans k2; have j3 := (hb3.cell (p := ⟨w.heap.size, 3, none⟩) hz1).trans k3; have j4 := (hb3.cell (p := ⟨w.heap.size, 4, none⟩) hz1).trans k4; have j5 := (hb3.cell (p := ⟨w.heap.size, 5, none⟩) hz1).trans k5; clear hb3 k0 k1 k2 k3 k4 k5)
      | (go_at_call 79; refine (HC.out _).mono ?_; rintro e w1 ⟨rfl, hb1⟩; have HB1 : Hid (Below w.heap.size w w1) := HX.out.trans (hb1.mono HX.out.size); have hz1 : w.heap.size < w1.heap.size := boxed_lt hb1; have k0 := box_keep hb1 0; have k1 := box_keep hb1 1; have k2 := box_keep hb1 2; have k3 := box_keep hb1 3; have k4 := box_keep hb1 4; have k5 := box_keep hb1 5; clear hb1))
  all_goals
    go_wp2
    go_ret
    exact ⟨rfl, HB3.out⟩
end Go.Proofs.YtkepmjebnkcbgaaGreatDoor
/-
  Forms of releases, and releases written, as the specification has them.
-/
namespace Go.Proofs.YtkepmjebnkcbgaaGreatDoor
open Go.RowKit
set_option linter.unusedVariables false
theorem inU_iff {n lo hi : Int} : inU n lo hi = true ↔ lo ≤ n ∧ n ≤ hi := by simp [inU]
set_option maxRecDepth 100000 in
set_option maxHeartbeats 4000000 in
theorem l6Form_any (w : World) (v : Value) (x : ReleaseM) (h : ReleaseAt w v x) : Calls Tryz.prog 50 #[v] w fun e w' => e = .returned (.bool (formT x)) ∧ Below w.heap.size w w' := by
  obtain ⟨vg, vc, vl, rfl, h1, h2, h3, hu, he, tb⟩ := h
  obtain ⟨a, c, rfl, -⟩ := h1.form
  obtain ⟨a1, c1, rfl, -⟩ := h2.form
  obtain ⟨a2, c2, rfl, -⟩ := h3.form
  obtain ⟨n, ⟨gs, es, af, xs⟩, su, se⟩ := x
  dsimp only at hu he
  have HD : Hid (TextsAt w (.slice a gs.length c) gs ∧ EntsAt w (.slice a1 es.length c1) es ∧ AffsAt w (.slice a2 xs.length c2) xs ∧ powTab w) := ⟨h1, h2, h3, tb⟩
  have HR : Hid (ReleaseAt w (.agg #[.int .i64 n, .slice a gs.length c, .slice a1 es.length c1, .bool af, .slice a2 xs.length c2, .string su, .string se]) (n, (gs, es, af, xs), su, se)) := ⟨_, _, _, rfl, h1, h2, h3, hu, he, tb⟩
  have HU : Hid (su.size ≤ maxLen ∧ se.size ≤ maxLen) := ⟨hu, he⟩
  have HB0 : Hid (Below w.heap.size w (w.alloc (.cells #[.int .i64 n, .slice a gs.length c, .slice a1 es.length c1, .bool af, .slice a2 xs.length c2, .string su, .string se] 37))) := (Below.refl _ _).alloc (Nat.le_refl _) _
  clear h1 h2 h3 tb hu he
  cases hA : inU n 1 999999 with
  | false =>
    have HF : Hid (formT (n, (gs, es, af, xs), su, se) = false) := by
      show formT _ = _
      have h9 : ¬ (1 ≤ n ∧ n ≤ 999999) := fun q => by rw [inU_iff.2 q] at hA; cases hA
      cases h8 : formT (n, (gs, es, af, xs), su, se) with
      | false => rfl
      | true => exact absurd (form_parts h8).1 h9
    go_enter Tryz.func50, Tryz.ntmps50
    go_wp2_with fail
    refine (l1InU_is hA _).mono ?_
    rintro e w1 ⟨rfl, hw2⟩
    have hw3 := hw2.symm
    clear hw2
    subst hw3
    go_wp2
    go_ret
    exact ⟨ret_bool HF.out.symm, HB0.out⟩
  | true =>
    obtain ⟨a0, b0⟩ := inU_iff.1 hA
    cases hD : deltaT gs es af xs with
    | false =>
      have HF : Hid (formT (n, (gs, es, af, xs), su, se) = false) := by show formT _ = _; simp [formT, hD]
      go_enter Tryz.func50, Tryz.ntmps50
      go_wp2_with fail
      refine (l1InU_is hA _).mono ?_
      rintro e w1 ⟨rfl, hw2⟩
      have hw3 := hw2.symm
      clear hw2
      subst hw3
      go_wp2_with fail
      refine (specDeltaOk_any _ _ _ _ af gs es xs (HD.out.1.below HB0.out) (HD.out.2.1.below HB0.out) (HD.out.2.2.1.below HB0.out)).mono ?_
      rintro e w1 ⟨rfl, hb1⟩
      rw [hD]
      have HB1 : Hid (Below w.heap.size w w1) := HB0.out.trans (hb1.mono HB0.out.size)
      clear hb1
      go_wp2
      go_ret
      exact ⟨ret_bool HF.out.symm, HB1.out⟩
    | true =>
      have HOK : Hid (deltaT gs es af xs = true) := hD
      have hu9 := HU.out
      unfold maxLen at hu9
      go_enter Tryz.func50, Tryz.ntmps50
      go_wp2_with fail
      refine (l1InU_is hA _).mono ?_
      rintro e w1 ⟨rfl, hw2⟩
      have hw3 := hw2.symm
      clear hw2
      subst hw3
      go_wp2_with fail
      refine (specDeltaOk_any _ _ _ _ af gs es xs (HD.out.1.below HB0.out) (HD.out.2.1.below HB0.out) (HD.out.2.2.1.below HB0.out)).mono ?_
      rintro e w1 ⟨rfl, hb1⟩
      rw [hD]
      have HB1 : Hid (Below w.heap.size w w1) := HB0.out.trans (hb1.mono HB0.out.size)
      have k0 : w1.cell? ⟨w.heap.size, 0, none⟩ = some (.int .i64 n) := (hb1.cell (p := ⟨w.heap.size, 0, none⟩) (by simp)).trans (by simp [go_sem])
      have k1 : w1.cell? ⟨w.heap.size, 1, none⟩ = some (.slice a gs.length c) := (hb1.cell (p := ⟨w.heap.size, 1, none⟩) (by simp)).trans (by simp [go_sem])
      have k2 : w1.cell? ⟨w.heap.size, 2, none⟩ = some (.slice a1 es.length c1) := (hb1.cell (p := ⟨w.heap.size, 2, none⟩) (by simp)).trans (by simp [go_sem])
      have k3 : w1.cell? ⟨w.heap.size, 3, none⟩ = some (.bool af) := (hb1.cell (p := ⟨w.heap.size, 3, none⟩) (by simp)).trans (by simp [go_sem])
      have k4 : w1.cell? ⟨w.heap.size, 4, none⟩ = some (.slice a2 xs.length c2) := (hb1.cell (p := ⟨w.heap.size, 4, none⟩) (by simp)).trans (by simp [go_sem])
      have k5 : w1.cell? ⟨w.heap.size, 5, none⟩ = some (.string su) := (hb1.cell (p := ⟨w.heap.size, 5, none⟩) (by simp)).trans (by simp [go_sem])
      have k6 : w1.cell? ⟨w.heap.size, 6, none⟩ = some (.string se) := (hb1.cell (p := ⟨w.heap.size, 6, none⟩) (by simp)).trans (by simp [go_sem])
      have hz1 : w.heap.size < w1.heap.size := by have := hb1.size; simp at this; omega
      clear hb1
      by_cases s1 : su.size = 64
      · by_cases s2 : se.size = 64
        · have s1' : (su.size : Int) = 64 := by omega
          have s2' : (se.size : Int) = 64 := by omega
          have HF : Hid (formT (n, (gs, es, af, xs), su, se) = (figsL su.data.toList && (figsL se.data.toList && decide ((relL (n, (gs, es, af, xs), su, se)).length ≤ 1200)))) := by
            show formT _ = _
            simp [formT, hD, a0, b0, sumT, s1, s2]
          go_wp2
          go_loop [3] (fun i => ∃ k : Nat, k ≤ 64 ∧ i = .int .i64 k ∧ figsL (su.data.toList.take k) = true ∧ figsL (se.data.toList.take k) = true) (fun i => 64 - (intOf i).toNat)
          case atStart => exact ⟨0, Nat.zero_le _, rfl, rfl, rfl⟩
          case round =>
            obtain ⟨k, hk, rfl, hr1, hr2⟩ := hrel
            have HR1 : Hid (figsL (su.data.toList.take k) = true) := hr1
            have HR2 : Hid (figsL (se.data.toList.take k) = true) := hr2
            clear hr1 hr2
            by_cases hlt : k < 64
            · have hlt' : (k : Int) < 64 := by omega
              have hk1 : k < su.size := by omega
              have hk2 : k < se.size := by omega
              have hi1 : 0 ≤ (k : Int) ∧ (k : Int) < su.size := by omega
              have hi2 : 0 ≤ (k : Int) ∧ (k : Int) < se.size := by omega
              have hi64 : 0 ≤ (k : Int) ∧ (k : Int) < 64 := by omega
              cases f1 : figB (su[k].toNat : Int) with
              | false =>
                have HG : Hid (formT (n, (gs, es, af, xs), su, se) = false) := by show formT _ = _; rw [HF.out, figs_bad su k hk1 f1]; rfl
                go_wp2_with fail
                refine (l6Figure_any _ _ (by omega) (by have := su[k].toNat_lt; omega)).mono ?_
                rintro e w2 ⟨rfl, hw2⟩
                rw [f1]
                have hw3 := hw2.symm
                clear hw2
                subst hw3
                go_wp2
                go_ret
                exact ⟨ret_bool HG.out.symm, HB1.out⟩
              | true =>
                go_wp2_with fail
                refine (l6Figure_any _ _ (by omega) (by have := su[k].toNat_lt; omega)).mono ?_
                rintro e w2 ⟨rfl, hw2⟩
                rw [f1]
                have hw3 := hw2.symm
                clear hw2
                subst hw3
                cases f2 : figB (se[k].toNat : Int) with
                | false =>
                  have HG : Hid (formT (n, (gs, es, af, xs), su, se) = false) := by show formT _ = _; rw [HF.out, figs_bad se k hk2 f2]; simp
                  go_wp2_with fail
                  refine (l6Figure_any _ _ (by omega) (by have := se[k].toNat_lt; omega)).mono ?_
                  rintro e w2 ⟨rfl, hw2⟩
                  rw [f2]
                  have hw3 := hw2.symm
                  clear hw2
                  subst hw3
                  go_wp2
                  go_ret
                  exact ⟨ret_bool HG.out.symm, HB1.out⟩
                | true =>
                  have HN : Hid (figsL (su.data.toList.take (k + 1)) = true ∧ figsL (se.data.toList.take (k + 1)) = true) := by
                    show figsL _ = true ∧ figsL _ = true
                    rw [figs_take_succ su k hk1, HR1.out, f1, figs_take_succ se k hk2, HR2.out, f2]
                    exact ⟨rfl, rfl⟩
                  go_wp2_with fail
                  refine (l6Figure_any _ _ (by omega) (by have := se[k].toNat_lt; omega)).mono ?_
                  rintro e w2 ⟨rfl, hw2⟩
                  rw [f2]
                  have hw3 := hw2.symm
                  clear hw2
                  subst hw3
                  go_wp2
                  go_round
                  case rel => exact ⟨k + 1, by omega, by go_num, HN.out.1, HN.out.2⟩
                  case measure => simp [intOf]; omega
            · have hlt' : ¬ (k : Int) < 64 := by omega
              have HG : Hid (formT (n, (gs, es, af, xs), su, se) = decide ((relL (n, (gs, es, af, xs), su, se)).length ≤ 1200)) := by
                show formT _ = _
                rw [HF.out, ← figs_all su k (by omega), HR1.out, ← figs_all se k (by omega), HR2.out]
                rfl
              obtain ⟨RT, hRT⟩ : ∃ T, mkT (relL (n, (gs, es, af, xs), su, se)) = T := ⟨_, rfl⟩
              have hrs : (relL (n, (gs, es, af, xs), su, se)).length = RT.size := by rw [← hRT, mk_size]
              rw [hrs] at HG
              have HRT : Hid (mkT (relL (n, (gs, es, af, xs), su, se)) = RT) := hRT
              have hr9 : RT.size ≤ 300000 := by
                rw [← hrs]
                have h5 := dputL_len hD
                have h6 := itoa_len a0 b0
                simp only [relL, List.length_append, List.length_cons, List.length_nil, bl_length]
                omega
              clear hRT hrs
              go_wp2_with fail
              refine (l6Text_any _ _ (n, (gs, es, af, xs), su, se) (HR.out.below HB1.out) a0 b0 HOK.out (by dsimp only; omega)).mono ?_
              rintro e w2 ⟨rfl, hb2⟩
              rw [HRT.out]
              have HB2 : Hid (Below w.heap.size w w2) := HB1.out.trans (hb2.mono HB1.out.size)
              clear hb2
              go_wp2
              go_ret
              exact ⟨ret_bool (by rw [HG.out]; exact decide_eq_decide.2 (by omega)), HB2.out⟩
        · have s2' : ¬ (se.size : Int) = 64 := by omega
          have s1' : (su.size : Int) = 64 := by omega
          have HF : Hid (formT (n, (gs, es, af, xs), su, se) = false) := by show formT _ = _; simp [formT, sumT, s2]
          go_wp2
          go_ret
          exact ⟨ret_bool HF.out.symm, HB1.out⟩
      · have s1' : ¬ (su.size : Int) = 64 := by omega
        have HF : Hid (formT (n, (gs, es, af, xs), su, se) = false) := by show formT _ = _; simp [formT, sumT, s1]
        go_wp2
        go_ret
        exact ⟨ret_bool HF.out.symm, HB1.out⟩
end Go.Proofs.YtkepmjebnkcbgaaGreatDoor
