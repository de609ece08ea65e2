/-
  Texts of releases.
-/
import Derived.Test.YtcfpbjhfhdcjoaaGreatDoorW180
import Derived.Test.YtcfpbjhfhdcjoaaGreatDoorW181
import Derived.Test.YtcfpbjhfhdcjoaaGreatDoorW182
import Derived.Test.YtcfpbjhfhdcjoaaGreatDoorW117
import Derived.Test.YtcfpbjhfhdcjoaaGreatDoorW118
import Derived.Test.YtcfpbjhfhdcjoaaGreatDoorW162
import Derived.Lib.AppendIntMem
import Derived.Deep.RegionHeld3
namespace Go.Proofs.YtcfpbjhfhdcjoaaGreatDoor
open Go.RowKit
set_option linter.unusedVariables false
/-- The text that is sealed. -/
def relL (x : ReleaseM) : List UInt8 := [114, 101, 108, 101, 97, 115, 101, 32] ++ Lib.itoa x.1 ++ (32 :: bl x.2.2.1) ++ (10 :: dputL x.2.1.1 x.2.1.2.1 x.2.1.2.2.1 x.2.1.2.2.2)
def formT (x : ReleaseM) : Bool := (decide (1 ≤ x.1) && decide (x.1 ≤ 999999)) && (deltaT x.2.1.1 x.2.1.2.1 x.2.1.2.2.1 x.2.1.2.2.2 && (sumT x.2.2.1 && (sumT x.2.2.2 && decide ((relL x).length ≤ 1200))))
def rputT (x : ReleaseM) : ByteArray := if formT x then mkT (relL x ++ ([115, 101, 97, 108, 32] ++ bl x.2.2.2 ++ [10])) else ⟨#[]⟩
theorem dputL_len {gs : List ByteArray} {es : List (ByteArray × ByteArray)} {af : Bool} {xs : List Aff} (hok : deltaT gs es af xs = true) : (dputL gs es af xs).length ≤ 200000 := by
  obtain ⟨⟨hl8, hl24, hlg⟩, hsa, hse, hsg⟩ := delta_parts hok
  have h1 := headD_length af
  have h2 := putA_length hsa xs.length (Nat.le_refl _)
  have h3 := putG_length hsg gs.length (Nat.le_refl _)
  have h4 := putC_length hse es.length (Nat.le_refl _)
  rw [List.take_length] at h2 h3 h4
  unfold dputL
  simp only [List.length_append]
  omega
theorem app_mk (a b : List UInt8) : mkT a ++ mkT b = mkT (a ++ b) := by
  unfold mkT
  apply ByteArray.ext
  simp
theorem boxed_lt {w w' : World} {cs : Array Value} {t : TypeId} (h : Below (w.alloc (.cells cs t)).drew.heap.size (w.alloc (.cells cs t)).drew w') : w.heap.size < w'.heap.size := by
  have h1 := h.size
  have h2 : (w.alloc (.cells cs t)).drew.heap.size = w.heap.size + 1 := World.size_alloc _ _
  omega
theorem box_keep {w w' : World} {cs : Array Value} {t : TypeId} (h : Below (w.alloc (.cells cs t)).drew.heap.size (w.alloc (.cells cs t)).drew w') (i : Nat) : w'.cell? ⟨w.heap.size, i, none⟩ = cs[i]? := by
  have h2 : (w.alloc (.cells cs t)).drew.heap.size = w.heap.size + 1 := World.size_alloc _ _
  refine (h.cell (p := ⟨w.heap.size, i, none⟩) (by rw [h2]; exact Nat.lt_succ_self _)).trans ?_
  show (w.alloc (.cells cs t)).cell? _ = _
  rw [cell_of_row _ _ i _ _ _ (heap_alloc_last _ _)]
def joinT (a b : ByteArray) : Nat → ByteArray
  | 0 => ⟨#[114, 101, 108, 101, 97, 115, 101]⟩
  | 1 => a
  | _ => b
theorem joinT_cells (w : World) (a b : ByteArray) (t : TypeId) : ∀ k, k < 3 → (w.alloc (.cells #[.string ⟨#[114, 101, 108, 101, 97, 115, 101]⟩, .string a, .string b] t)).cell? ⟨w.heap.size, k, none⟩ = some (.string (joinT a b k)) := by
  intro k hk
  rw [cell_of_row _ _ k _ _ _ (heap_alloc_last _ _)]
  match k, hk with
  | 0, _ => rfl
  | 1, _ => rfl
  | 2, _ => rfl
theorem keep_past {w w' : World} {o : Obj} (h : Below (w.alloc o).heap.size (w.alloc o) w') {p : Addr} (hp : p.block < w.heap.size) : w'.cell? p = w.cell? p := by
  refine (h.cell (by rw [World.size_alloc]; omega)).trans ?_
  exact ((Below.refl w.heap.size w).alloc (Nat.le_refl _) o).cell hp
theorem below_past {w w' : World} {o : Obj} (h : Below (w.alloc o).heap.size (w.alloc o) w') : Below w.heap.size w w' := below_any h ((Below.refl _ _).alloc (Nat.le_refl _) _)
theorem itoa_len {n : Int} (h0 : 1 ≤ n) (h1 : n ≤ 999999) : (Lib.itoa n).length ≤ 21 := Lib.itoa_length_le _ (by omega) (by omega)
theorem itoa_any (n : Int) (w : World) (h0 : 1 ≤ n) (h1 : n ≤ 999999) (ht : powTab w) : Calls Tryz.prog 31 #[.int .i64 n] w fun e w' => e = .returned (.string (mkT (Lib.itoa n))) ∧ Below w.heap.size w w' := by
  refine (Tryz.strconv_Itoa n (by omega) (by omega) w ht).mono ?_
  rintro e w1 ⟨rfl, k, os, rfl⟩
  exact ⟨rfl, Lib.below_grow _ _ (Nat.le_refl _) _ _⟩
set_option maxRecDepth 100000 in
set_option maxHeartbeats 2000000 in
theorem releaseText_any (w : World) (v : Value) (x : ReleaseM) (h : ReleaseAt w v x) (hn0 : 1 ≤ x.1) (hn1 : x.1 ≤ 999999) (hok : deltaT x.2.1.1 x.2.1.2.1 x.2.1.2.2.1 x.2.1.2.2.2 = true) (hsu : x.2.2.1.size ≤ 64) :
    Calls Tryz.prog 14 #[v] w fun e w' => e = .returned (.string (mkT (relL x))) ∧ Below w.heap.size w w' := by
  obtain ⟨vg, vc, vl, rfl, h1, h2, h3, hu, he, tb⟩ := h
  obtain ⟨a, c, rfl, -⟩ := h1.form
  obtain ⟨a1, c1, rfl, -⟩ := h2.form
  obtain ⟨a2, c2, rfl, -⟩ := h3.form
  obtain ⟨n, ⟨gs, es, af, xs⟩, su, se⟩ := x
  dsimp only at *
  have HD : Hid (TextsAt w (.slice a gs.length c) gs ∧ EntsAt w (.slice a1 es.length c1) es ∧ AffsAt w (.slice a2 xs.length c2) xs ∧ powTab w) := ⟨h1, h2, h3, tb⟩
  have HLD : Hid ((dputL gs es af xs).length ≤ 200000) := dputL_len hok
  have HDT : Hid (dputT gs es af xs = mkT (dputL gs es af xs)) := if_pos hok
  have hil := itoa_len hn0 hn1
  obtain ⟨IT, hIT⟩ : ∃ T, mkT (Lib.itoa n) = T := ⟨_, rfl⟩
  obtain ⟨DT, hDT⟩ : ∃ T, dputT gs es af xs = T := ⟨_, rfl⟩
  have hit : IT.size ≤ 21 := by rw [← hIT, mk_size]; exact hil
  have hdt : DT.size ≤ 200000 := by rw [← hDT, HDT.out, mk_size]; exact HLD.out
  have HJ : Hid (∀ k, k < 3 → (joinT IT su k).size ≤ 1000) := by
    intro k hk
    match k, hk with
    | 0, _ => show 7 ≤ 1000; decide
    | 1, _ => show IT.size ≤ 1000; omega
    | 2, _ => show su.size ≤ 1000; omega
  obtain ⟨JT, hJT⟩ : ∃ T : ByteArray, (⟨(accJ (joinT IT su) 2).toArray⟩ : ByteArray) = T := ⟨_, rfl⟩
  have hjt : JT.size ≤ 200 := by
    rw [← hJT, size_toArr]
    simp only [accJ, List.length_append, List.length_cons, bl_length]
    show 7 + (IT.size + 1) + (su.size + 1) ≤ 200
    omega
  have HF : Hid (JT ++ ⟨#[10]⟩ ++ DT = mkT (relL (n, (gs, es, af, xs), su, se))) := by
    show JT ++ _ ++ DT = _
    rw [← hJT, ← hDT, HDT.out]
    have e1 : (⟨#[10]⟩ : ByteArray) = mkT [10] := rfl
    have e2 : (⟨(accJ (joinT IT su) 2).toArray⟩ : ByteArray) = mkT (accJ (joinT IT su) 2) := rfl
    rw [e1, e2, app_mk, app_mk]
    congr 1
    have e3 : bl IT = Lib.itoa n := by rw [← hIT, bl_mk]
    have e4 : IT.data.toList = Lib.itoa n := e3
    simp only [accJ, relL]
    simp [bl, joinT, e4]
  have HB0 : Hid (Below w.heap.size w (World.drew (w.alloc (.cells #[.int .i64 n, .slice a gs.length c, .slice a1 es.length c1, .bool af, .slice a2 xs.length c2, .string su, .string se] 36)))) := ((Below.refl _ _).alloc (Nat.le_refl _) _).drew
  have HIT : Hid (mkT (Lib.itoa n) = IT) := hIT
  have HDT2 : Hid (dputT gs es af xs = DT) := hDT
  have HJT : Hid (_ = JT) := hJT
  obtain ⟨J1, hJ1⟩ : ∃ T, JT ++ ⟨#[10]⟩ = T := ⟨_, rfl⟩
  have sz1 : J1.size ≤ 201 := by rw [← hJ1, ByteArray.size_append]; show JT.size + 1 ≤ 201; omega
  obtain ⟨RT, hRT⟩ : ∃ T, J1 ++ DT = T := ⟨_, rfl⟩
  have HRT : Hid (RT = mkT (relL (n, (gs, es, af, xs), su, se))) := by show RT = _; rw [← hRT, ← hJ1]; exact HF.out
  have r1 : ∀ w : World, (Op.stringOp .add JT ⟨#[10]⟩).run Tryz.prog w = .ok (.string J1) w := fun w => by rw [run_string_add_sum w _ _ (show JT.size + 1 ≤ 9223372036854775807 by omega), hJ1]
  have r2 : ∀ w : World, (Op.stringOp .add J1 DT).run Tryz.prog w = .ok (.string RT) w := fun w => by rw [run_string_add_sum w _ _ (by omega), hRT]
  clear hJ1 hRT hjt hdt sz1
  clear h1 h2 h3 tb hIT hDT hJT hil
  go_enter Tryz.func14, Tryz.ntmps14
  go_wp2_with fail
  go_region_held3 (fun w' => w'.cell? ⟨w.heap.size, 0, none⟩ = some (.int .i64 n) ∧ w'.cell? ⟨w.heap.size, 1, none⟩ = some (.slice a gs.length c) ∧ w'.cell? ⟨w.heap.size, 2, none⟩ = some (.slice a1 es.length c1) ∧ w'.cell? ⟨w.heap.size, 3, none⟩ = some (.bool af) ∧ w'.cell? ⟨w.heap.size, 4, none⟩ = some (.slice a2 xs.length c2) ∧ w'.cell? ⟨w.heap.size, 5, none⟩ = some (.string su)) (go_keep)
    (first
      | (have qm := HB2; clear qm; go_at_call 32; refine (implDeltaPut_any _ _ _ _ af gs es xs (HD.out.1.below HB2.out) (HD.out.2.1.below HB2.out) (HD.out.2.2.1.below HB2.out)).mono ?_; rintro e w3 ⟨rfl, hb3⟩; rw [HDT2.out]; have HB3 : Hid (Below w.heap.size w w3) := HB2.out.trans (hb3.mono HB2.out.size); have l0 := (hb3.cell (p := ⟨w.heap.size, 0, none⟩) hz2).trans j0; have l1 := (hb3.cell (p := ⟨w.heap.size, 1, none⟩) hz2).trans j1; have l2 := (hb3.cell (p := ⟨w.heap.size, 2, none⟩) hz2).trans j2; have l3 := (hb3.cell (p := ⟨w.heap.size, 3, none⟩) hz2).trans j3; have l4 := (hb3.cell (p := ⟨w.heap.size, 4, none⟩) hz2).trans j4; have l5 := (hb3.cell (p := ⟨w.heap.size, 5, none⟩) hz2).trans j5; clear hb3 j0 j1 j2 j3 j4 j5)
      | (have qm := HB1; clear qm; go_at_call 30; refine (join3_any _ w1.heap.size (joinT IT su) HJ.out (by simp) (joinT_cells w1 IT su _)).mono ?_; rintro e w2 ⟨rfl, hb2⟩; rw [HJT.out]; have HB2 : Hid (Below w.heap.size w w2) := HB1.out.trans ((below_past hb2).mono HB1.out.size); have hz2 : w.heap.size < w2.heap.size := Nat.lt_of_lt_of_le hz1 (below_past hb2).size; have j0 := (keep_past hb2 (p := ⟨w.heap.size, 0, none⟩) hz1).trans k0; have j1 := (keep_past hb2 (p := ⟨w.heap.size, 1, none⟩) hz1).trans k1; have j2 := (keep_past hb2 (p := ⟨w.heap.size, 2, none⟩) hz1).trans k2; have j3 := (keep_past hb2 (p := ⟨w.heap.size, 3, none⟩) hz1).trans k3; have j4 := (keep_past hb2 (p := ⟨w.heap.size, 4, none⟩) hz1).trans k4; have j5 := (keep_past hb2 (p := ⟨w.heap.size, 5, none⟩) hz1).trans k5; clear hb2 k0 k1 k2 k3 k4 k5)
      | (go_at_call 31; refine (itoa_any n _ hn0 hn1 (HD.out.2.2.2.below HB0.out)).mono ?_; rintro e w1 ⟨rfl, hb1⟩; rw [HIT.out]; have HB1 : Hid (Below w.heap.size w w1) := HB0.out.trans (hb1.mono HB0.out.size); have hz1 : w.heap.size < w1.heap.size := boxed_lt hb1; have k0 := box_keep hb1 0; have k1 := box_keep hb1 1; have k2 := box_keep hb1 2; have k3 := box_keep hb1 3; have k4 := box_keep hb1 4; have k5 := box_keep hb1 5; clear hb1))
  all_goals
    go_wp2
    go_ret
    exact ⟨by rw [← HRT.out]; rfl, HB3.out⟩
end Go.Proofs.YtcfpbjhfhdcjoaaGreatDoor
