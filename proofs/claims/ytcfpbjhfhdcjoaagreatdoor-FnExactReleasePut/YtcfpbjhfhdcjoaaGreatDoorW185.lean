/-
  Texts and forms of releases, as the specification has them.
-/
import Derived.Test.YtcfpbjhfhdcjoaaGreatDoorW184
namespace Go.Proofs.YtcfpbjhfhdcjoaaGreatDoor
open Go.RowKit
set_option linter.unusedVariables false
set_option maxRecDepth 100000 in
set_option maxHeartbeats 2000000 in
theorem l6Text_any (w : World) (v : Value) (x : ReleaseM) (h : ReleaseAt w v x) (hn0 : 1 ≤ x.1) (hn1 : x.1 ≤ 999999) (hok : deltaT x.2.1.1 x.2.1.2.1 x.2.1.2.2.1 x.2.1.2.2.2 = true) (hsu : x.2.2.1.size ≤ 64) :
    Calls Tryz.prog 11 #[v] w fun e w' => e = .returned (.string (mkT (relL x))) ∧ Below w.heap.size w w' := by
  obtain ⟨vg, vc, vl, rfl, h1, h2, h3, hu, he, tb⟩ := h
  obtain ⟨a, c, rfl, -⟩ := h1.form
  obtain ⟨a1, c1, rfl, -⟩ := h2.form
  obtain ⟨a2, c2, rfl, -⟩ := h3.form
  obtain ⟨n, ⟨gs, es, af, xs⟩, su, se⟩ := x
  dsimp only at hu he
  have HD : Hid (TextsAt w (.slice a gs.length c) gs ∧ EntsAt w (.slice a1 es.length c1) es ∧ AffsAt w (.slice a2 xs.length c2) xs ∧ powTab w) := ⟨h1, h2, h3, tb⟩
  have HR : Hid (ReleaseAt w (.agg #[.int .i64 n, .slice a gs.length c, .slice a1 es.length c1, .bool af, .slice a2 xs.length c2, .string su, .string se]) (n, (gs, es, af, xs), su, se)) := ⟨_, _, _, rfl, h1, h2, h3, hu, he, tb⟩
  have HU : Hid (su.size ≤ maxLen ∧ se.size ≤ maxLen) := ⟨hu, he⟩
  have HB0 : Hid (Below w.heap.size w (w.alloc (.cells #[.int .i64 n, .slice a gs.length c, .slice a1 es.length c1, .bool af, .slice a2 xs.length c2, .string su, .string se] 36))) := (Below.refl _ _).alloc (Nat.le_refl _) _
  clear h1 h2 h3 tb hu he
  dsimp only at hn0 hn1 hok hsu
  have hdl := dputL_len hok
  have hil := itoa_len hn0 hn1
  obtain ⟨m, hm⟩ : ∃ m : Nat, n = (m : Int) := ⟨n.toNat, by omega⟩
  have hm9 : m ≤ 999999 := by omega
  obtain ⟨IT, hIT⟩ : ∃ T : ByteArray, (⟨(Lib.itoa n).toArray⟩ : ByteArray) = T := ⟨_, rfl⟩
  obtain ⟨DT, hDT⟩ : ∃ T, mkT (dputL gs es af xs) = T := ⟨_, rfl⟩
  have hit : IT.size ≤ 21 := by rw [← hIT, size_toArr]; exact hil
  have hdt : DT.size ≤ 200000 := by rw [← hDT, mk_size]; exact hdl
  obtain ⟨T1, h1⟩ : ∃ T, (⟨#[114, 101, 108, 101, 97, 115, 101, 32]⟩ : ByteArray) ++ IT = T := ⟨_, rfl⟩
  have z1 : T1.size ≤ 30 := by rw [← h1, ByteArray.size_append]; show 8 + IT.size ≤ 30; omega
  obtain ⟨T2, h2⟩ : ∃ T, T1 ++ ⟨#[32]⟩ = T := ⟨_, rfl⟩
  have z2 : T2.size ≤ 31 := by rw [← h2, ByteArray.size_append]; show T1.size + 1 ≤ 31; omega
  obtain ⟨T3, h3⟩ : ∃ T, T2 ++ su = T := ⟨_, rfl⟩
  have z3 : T3.size ≤ 100 := by rw [← h3, ByteArray.size_append]; omega
  obtain ⟨T4, h4⟩ : ∃ T, T3 ++ ⟨#[10]⟩ = T := ⟨_, rfl⟩
  have z4 : T4.size ≤ 101 := by rw [← h4, ByteArray.size_append]; show T3.size + 1 ≤ 101; omega
  obtain ⟨T5, h5⟩ : ∃ T, T4 ++ DT = T := ⟨_, rfl⟩
  have HF : Hid (mkT (relL (n, (gs, es, af, xs), su, se)) = T5) := by
    show mkT _ = T5
    rw [← h5, ← h4, ← h3, ← h2, ← h1, ← hIT, ← hDT]
    apply ByteArray.ext
    simp [mkT, relL, bl]
  have r1 : ∀ w : World, (Op.stringOp .add ⟨#[114, 101, 108, 101, 97, 115, 101, 32]⟩ IT).run Tryz.prog w = .ok (.string T1) w := fun w => by rw [run_string_add_sum w ⟨#[114, 101, 108, 101, 97, 115, 101, 32]⟩ IT (show 8 + IT.size ≤ 9223372036854775807 by omega), h1]
  have r2 : ∀ w : World, (Op.stringOp .add T1 ⟨#[32]⟩).run Tryz.prog w = .ok (.string T2) w := fun w => by rw [run_string_add_sum w _ _ (show T1.size + 1 ≤ 9223372036854775807 by omega), h2]
  have r3 : ∀ w : World, (Op.stringOp .add T2 su).run Tryz.prog w = .ok (.string T3) w := fun w => by rw [run_string_add_sum w _ _ (by omega), h3]
  have r4 : ∀ w : World, (Op.stringOp .add T3 ⟨#[10]⟩).run Tryz.prog w = .ok (.string T4) w := fun w => by rw [run_string_add_sum w _ _ (show T3.size + 1 ≤ 9223372036854775807 by omega), h4]
  have r5 : ∀ w : World, (Op.stringOp .add T4 DT).run Tryz.prog w = .ok (.string T5) w := fun w => by rw [run_string_add_sum w _ _ (by omega), h5]
  have HC : Hid (∀ w : World, Calls Tryz.prog 23 #[.int .i64 n] w fun e w' => e = .returned (.string IT) ∧ Below w.heap.size w w') := by
    intro w
    have h := l1Dec_any m w hm9
    rw [← hm, hIT] at h
    exact h
  have HDT : Hid (mkT (dputL gs es af xs) = DT) := hDT
  have HOK : Hid (deltaT gs es af xs = true) := hok
  have HX : Hid (Below w.heap.size w (World.drew (w.alloc (.cells #[.int .i64 n, .slice a gs.length c, .slice a1 es.length c1, .bool af, .slice a2 xs.length c2, .string su, .string se] 36)))) := HB0.out.drew
  rw [HF.out]
  clear hIT hDT h1 h2 h3 h4 h5 z1 z2 z3 z4 hit hdt hdl hil hm hm9 hok hn0 hn1
  go_enter Tryz.func11, Tryz.ntmps11
  go_wp2_with fail
  go_region_held3 (fun w' => w'.cell? ⟨w.heap.size, 0, none⟩ = some (.int .i64 n) ∧ w'.cell? ⟨w.heap.size, 1, none⟩ = some (.slice a gs.length c) ∧ w'.cell? ⟨w.heap.size, 2, none⟩ = some (.slice a1 es.length c1) ∧ w'.cell? ⟨w.heap.size, 3, none⟩ = some (.bool af) ∧ w'.cell? ⟨w.heap.size, 4, none⟩ = some (.slice a2 xs.length c2) ∧ w'.cell? ⟨w.heap.size, 5, none⟩ = some (.string su)) (go_keep)
    (first
      | (have qm := HB1; clear qm; go_at_call 24; refine (l5Put_any _ _ _ _ af gs es xs (HD.out.1.below HB1.out) (HD.out.2.1.below HB1.out) (HD.out.2.2.1.below HB1.out) HOK.out).mono ?_; rintro e w3 ⟨rfl, hb3⟩; rw [HDT.out]; have HB3 : Hid (Below w.heap.size w w3) := HB1.out.trans (hb3.mono HB1.out.size); have j0 := (hb3.cell (p := ⟨w.heap.size, 0, none⟩) hz1).trans k0; have j1 := (hb3.cell (p := ⟨w.heap.size, 1, none⟩) hz1).trans k1; have j2 := (hb3.cell (p := ⟨w.heap.size, 2, none⟩) hz1).trans k2; have j3 := (hb3.cell (p := ⟨w.heap.size, 3, none⟩) hz1).trans k3; have j4 := (hb3.cell (p := ⟨w.heap.size, 4, none⟩) hz1).trans k4; have j5 := (hb3.cell (p := ⟨w.heap.size, 5, none⟩) hz1).trans k5; clear hb3 k0 k1 k2 k3 k4 k5)
      | (go_at_call 23; refine (HC.out _).mono ?_; rintro e w1 ⟨rfl, hb1⟩; have HB1 : Hid (Below w.heap.size w w1) := HX.out.trans (hb1.mono HX.out.size); have hz1 : w.heap.size < w1.heap.size := boxed_lt hb1; have k0 := box_keep hb1 0; have k1 := box_keep hb1 1; have k2 := box_keep hb1 2; have k3 := box_keep hb1 3; have k4 := box_keep hb1 4; have k5 := box_keep hb1 5; clear hb1))
  all_goals
    go_wp2
    go_ret
    exact ⟨rfl, HB3.out⟩
end Go.Proofs.YtcfpbjhfhdcjoaaGreatDoor
