/-
  Texts of turns: impl.turnText, spec.l11Text.
-/
import Derived.Test.YtdjpeickokoclaaDoorW169
import Derived.Test.YtdjpeickokoclaaDoorGW182
import Derived.Test.YtdjpeickokoclaaDoorW441
import Derived.Test.YtdjpeickokoclaaDoorGLSealOf
import Derived.Deep.RegionHeld3
import Derived.Lib.ItoaLen
import Derived.Lib.ItoaMem
import Derived.Lib.AppendIntMem
namespace Go.Proofs.YtdjpeickokoclaaDoor
open Go.RowKit
set_option linter.unusedVariables false
/-- What a turn's seal is of. -/
def turnL (key : ByteArray) (fr : Int) : List UInt8 := [116, 117, 114, 110] ++ (32 :: Lib.itoa fr) ++ (32 :: hexT key.data.toList)
def turnB (key : ByteArray) (fr : Int) : ByteArray := ⟨(turnL key fr).toArray⟩
def turnJ (a b : ByteArray) : Nat → ByteArray
  | 0 => ⟨#[116, 117, 114, 110]⟩
  | 1 => a
  | _ => b
theorem turnJ_cells (w : World) (a b : ByteArray) (t : TypeId) : ∀ k, k < 3 → (w.alloc (.cells #[.string ⟨#[116, 117, 114, 110]⟩, .string a, .string b] t)).cell? ⟨w.heap.size, k, none⟩ = some (.string (turnJ a b k)) := by
  intro k hk
  rw [cell_of_row _ _ k _ _ _ (heap_alloc_last _ _)]
  match k, hk with
  | 0, _ => rfl
  | 1, _ => rfl
  | 2, _ => rfl
theorem turn_len {key : ByteArray} {fr : Int} (h0 : -9223372036854775808 ≤ fr) (h1 : fr ≤ 9223372036854775807) : (turnL key fr).length ≤ 27 + 2 * key.size := by
  have := Lib.itoa_length_le fr h0 h1
  have hk : key.data.toList.length = key.size := rfl
  unfold turnL
  simp only [List.length_append, List.length_cons, List.length_nil, hex_len, hk]
  omega
theorem itoa9_any (n : Int) (w : World) (h0 : -9223372036854775808 ≤ n) (h1 : n ≤ 9223372036854775807) (ht : powTab w) : Calls Tryd.prog 50 #[.int .i64 n] w fun e w' => e = .returned (.string ⟨(Lib.itoa n).toArray⟩) ∧ Below w.heap.size w w' := by
  refine (Tryd.strconv_Itoa n h0 h1 w ht).mono ?_
  rintro e w1 ⟨rfl, k, os, rfl⟩
  exact ⟨rfl, Lib.below_grow _ _ (Nat.le_refl _) _ _⟩
set_option maxRecDepth 100000 in
set_option maxHeartbeats 2000000 in
theorem implTurnText_any (w : World) (key : ByteArray) (fr : Int) (hk : key.size ≤ 1100000) (h0 : -9223372036854775808 ≤ fr) (h1 : fr ≤ 9223372036854775807) (ht : powTab w) :
    Calls Tryd.prog 36 #[.string key, .int .i64 fr] w fun e w' => e = .returned (.string (turnB key fr)) ∧ Below w.heap.size w w' := by
  have HT : Hid (powTab w) := ht
  have HI : Hid (-9223372036854775808 ≤ fr ∧ fr ≤ 9223372036854775807) := ⟨h0, h1⟩
  have hil := Lib.itoa_length_le fr h0 h1
  have hhl : (hexT key.data.toList).length ≤ 2200000 := by
    have hkl : key.data.toList.length = key.size := rfl
    rw [hex_len]
    omega
  obtain ⟨D, hD⟩ : ∃ D, (⟨(Lib.itoa fr).toArray⟩ : ByteArray) = D := ⟨_, rfl⟩
  obtain ⟨X, hX⟩ : ∃ X, (⟨(hexT key.data.toList).toArray⟩ : ByteArray) = X := ⟨_, rfl⟩
  have hDs : D.size ≤ 30 := by rw [← hD, str_sz]; omega
  have hXs : X.size ≤ 2200000 := by rw [← hX, str_sz]; omega
  have HF : Hid ((⟨(accJ (turnJ D X) 2).toArray⟩ : ByteArray) = turnB key fr) := by
    show _ = _
    unfold turnB turnL
    rw [← hD, ← hX]
    rfl
  have HD : Hid ((⟨(Lib.itoa fr).toArray⟩ : ByteArray) = D) := hD
  have HX : Hid ((⟨(hexT key.data.toList).toArray⟩ : ByteArray) = X) := hX
  clear hD hX h0 h1 ht hil hhl
  go_enter Tryd.func36, Tryd.ntmps36
  go_wp2_with fail
  refine (itoa9_any fr _ HI.out.1 HI.out.2 HT.out).mono ?_
  rintro e w1 ⟨rfl, hb1⟩
  rw [HD.out]
  have HB1 : Hid (Below w.heap.size w w1) := hb1
  clear hb1
  go_wp2_with fail
  refine (inFigures_any _ key (by omega)).mono ?_
  rintro e w2 ⟨rfl, hb2⟩
  rw [HX.out]
  have HB2 : Hid (Below w.heap.size w (w2.alloc (.cells #[.string ⟨#[116, 117, 114, 110]⟩, .string D, .string X] 9))) := (HB1.out.trans (hb2.mono HB1.out.size)).alloc (Nat.le_trans HB1.out.size hb2.size) _
  have HC : Hid (∀ k, k < 3 → (w2.alloc (.cells #[.string ⟨#[116, 117, 114, 110]⟩, .string D, .string X] 9)).cell? ⟨w2.heap.size, k, none⟩ = some (.string (turnJ D X k))) := turnJ_cells w2 D X _
  clear hb2
  go_wp2_with fail
  refine (join3_any _ w2.heap.size (turnJ D X) (fun k hk => by match k, hk with | 0, _ => (show (⟨#[116, 117, 114, 110]⟩ : ByteArray).size ≤ _; decide) | 1, _ => (show D.size ≤ _; omega) | 2, _ => (show X.size ≤ _; omega)) (by simp) HC.out).mono ?_
  rintro e w3 ⟨rfl, hb3⟩
  rw [HF.out]
  have HB3 : Hid (Below w.heap.size w w3) := HB2.out.trans (hb3.mono HB2.out.size)
  clear hb3
  go_wp2
  go_ret
  exact ⟨rfl, HB3.out⟩
end Go.Proofs.YtdjpeickokoclaaDoor
/-
  Texts of turns: spec.l11Text.
-/
namespace Go.Proofs.YtdjpeickokoclaaDoor
open Go.RowKit
set_option linter.unusedVariables false
set_option maxRecDepth 100000 in
set_option maxHeartbeats 2000000 in
theorem l11Text_any (w : World) (key sl : ByteArray) (n : Nat) (hk : key.size ≤ 64) (hn : n ≤ 999999) :
    Calls Tryd.prog 38 #[.agg #[.string key, .int .i64 (n : Int), .string sl]] w fun e w' => e = .returned (.string (turnB key (n : Int))) ∧ Below w.heap.size w w' := by
  have HN : Hid (n ≤ 999999) := hn
  have hil := Lib.itoa_length_le (n : Int) (by omega) (by omega)
  have hhl : (hexT key.data.toList).length ≤ 128 := by
    have hkl : key.data.toList.length = key.size := rfl
    rw [hex_len]
    omega
  obtain ⟨D, hD⟩ : ∃ D, (⟨(Lib.itoa (n : Int)).toArray⟩ : ByteArray) = D := ⟨_, rfl⟩
  obtain ⟨X, hX⟩ : ∃ X, (⟨(hexT key.data.toList).toArray⟩ : ByteArray) = X := ⟨_, rfl⟩
  have hDs : D.size ≤ 30 := by rw [← hD, str_sz]; omega
  have hXs : X.size ≤ 128 := by rw [← hX, str_sz]; omega
  obtain ⟨T1, h1⟩ : ∃ T, (⟨#[116, 117, 114, 110, 32]⟩ : ByteArray) ++ D = T := ⟨_, rfl⟩
  have z1 : T1.size ≤ 35 := by rw [← h1, ByteArray.size_append]; show 5 + D.size ≤ 35; omega
  obtain ⟨T2, h2⟩ : ∃ T, T1 ++ ⟨#[32]⟩ = T := ⟨_, rfl⟩
  have z2 : T2.size ≤ 36 := by rw [← h2, ByteArray.size_append]; show T1.size + 1 ≤ 36; omega
  obtain ⟨T3, h3⟩ : ∃ T, T2 ++ X = T := ⟨_, rfl⟩
  have HF : Hid (T3 = turnB key (n : Int)) := by
    show _ = _
    rw [← h3, ← h2, ← h1, ← hD, ← hX]
    unfold turnB turnL
    apply ByteArray.ext
    simp
  have r1 : ∀ w : World, (Op.stringOp .add ⟨#[116, 117, 114, 110, 32]⟩ D).run Tryd.prog w = .ok (.string T1) w := fun w => by rw [run_string_add_sum w ⟨#[116, 117, 114, 110, 32]⟩ D (show 5 + D.size ≤ 9223372036854775807 by omega), h1]
  have r2 : ∀ w : World, (Op.stringOp .add T1 ⟨#[32]⟩).run Tryd.prog w = .ok (.string T2) w := fun w => by rw [run_string_add_sum w T1 ⟨#[32]⟩ (show T1.size + 1 ≤ 9223372036854775807 by omega), h2]
  have r3 : ∀ w : World, (Op.stringOp .add T2 X).run Tryd.prog w = .ok (.string T3) w := fun w => by rw [run_string_add_sum w T2 X (by omega), h3]
  have HD : Hid ((⟨(Lib.itoa (n : Int)).toArray⟩ : ByteArray) = D) := hD
  have HX : Hid ((⟨(hexT key.data.toList).toArray⟩ : ByteArray) = X) := hX
  have HB0 : Hid (Below w.heap.size w (w.alloc (.cells #[.string key, .int .i64 (n : Int), .string sl] 28))) := (Below.refl _ _).alloc (Nat.le_refl _) _
  obtain ⟨W, hW⟩ : ∃ W, w.alloc (.cells #[.string key, .int .i64 (n : Int), .string sl] 28) = W := ⟨_, rfl⟩
  have N0 : W.heap[w.heap.size]? = some (.cells #[.string key, .int .i64 (n : Int), .string sl] 28 (0, 0)) := by rw [← hW]; exact heap_alloc_last w _
  have c0 : W.cell? ⟨w.heap.size, 0, none⟩ = some (.string key) := by rw [cell_of_row _ _ 0 _ _ _ N0]; rfl
  have c1 : W.cell? ⟨w.heap.size, 1, none⟩ = some (.int .i64 (n : Int)) := by rw [cell_of_row _ _ 1 _ _ _ N0]; rfl
  have hz : w.heap.size < W.heap.size := (Array.getElem?_eq_some_iff.1 N0).1
  rw [hW] at HB0
  have HW : Hid (w.alloc (.cells #[.string key, .int .i64 (n : Int), .string sl] 28) = W) := hW
  clear hD hX h1 h2 h3 z1 z2 hil hhl hW N0
  go_enter Tryd.func38, Tryd.ntmps38
  go_wp2_with fail
  try rw [HW.out]
  refine wp_region_held_drew (S := (fun w' => w'.cell? ⟨w.heap.size, 0, none⟩ = some (.string key) ∧ w'.cell? ⟨w.heap.size, 1, none⟩ = some (.int .i64 (n : Int)))) (by kernel_rfl) ?_ (fun hHeld => ?_)
  · exact ⟨c0, c1⟩
  refine wpAnyH_takeD (i := 0) (d := 3) (v := .pointer (some ⟨w.heap.size, 1, none⟩)) rfl (by kernel_rfl) (by kernel_rfl) (by kernel_rfl) (fun _ _ _ h => h) (Or.inl ⟨by rfl, by intro w hSw; (try dsimp only at hSw); go_simp⟩) (by assumption) rfl ?_
  simp only [Act.put, List.setIfInBounds_toArray, List.set_cons_zero, List.set_cons_succ]
  refine wpAnyH_takeD (i := 1) (d := 4) (v := .int .i64 (n : Int)) rfl (by kernel_rfl) (by kernel_rfl) (by kernel_rfl) (fun _ _ _ h => h) (Or.inl ⟨by rfl, by intro w hSw; (try dsimp only at hSw); go_simp⟩) (by assumption) rfl ?_
  simp only [Act.put, List.setIfInBounds_toArray, List.set_cons_zero, List.set_cons_succ]
  refine wpAnyH_takeD (i := 5) (d := 8) (v := .pointer (some ⟨w.heap.size, 0, none⟩)) rfl (by kernel_rfl) (by kernel_rfl) (by kernel_rfl) (fun _ _ _ h => h) (Or.inl ⟨by rfl, by intro w hSw; (try dsimp only at hSw); go_simp⟩) (by assumption) rfl ?_
  simp only [Act.put, List.setIfInBounds_toArray, List.set_cons_zero, List.set_cons_succ]
  refine wpAnyH_takeD (i := 6) (d := 9) (v := .string key) rfl (by kernel_rfl) (by kernel_rfl) (by kernel_rfl) (fun _ _ _ h => h) (Or.inl ⟨by rfl, by intro w hSw; (try dsimp only at hSw); go_simp⟩) (by assumption) rfl ?_
  simp only [Act.put, List.setIfInBounds_toArray, List.set_cons_zero, List.set_cons_succ]
  refine wpAnyH_ready (rs := [2]) (by kernel_rfl) (by simp) ?_
  refine AllReadyH.cons rfl (fun K hK => ?_) AllReadyH.nil
  go_simp
  refine (l1Dec_any n _ HN.out).mono ?_
  rintro e w1 ⟨rfl, hb1⟩
  have HB1 : Hid (Below W.heap.size W w1) := ((Below.refl _ _).drew).trans (hb1.mono (Nat.le_refl _))
  have d0 : w1.cell? ⟨w.heap.size, 0, none⟩ = some (.string key) := (HB1.out.cell (p := ⟨w.heap.size, 0, none⟩) hz).trans c0
  have d1 : w1.cell? ⟨w.heap.size, 1, none⟩ = some (.int .i64 (n : Int)) := (HB1.out.cell (p := ⟨w.heap.size, 1, none⟩) hz).trans c1
  rw [HD.out]
  clear hb1
  refine hK.out _ _ ?_ (fun hHeld => ?_)
  · exact ⟨d0, d1⟩
  clear hK K
  try simp only [Act.put, List.setIfInBounds_toArray, List.set_cons_zero, List.set_cons_succ]
  refine wpAnyH_takeD (i := 3) (d := 6) (v := .string T1) rfl (by kernel_rfl) (by kernel_rfl) (by kernel_rfl) (fun _ _ _ h => h) (Or.inl ⟨by rfl, by intro w hSw; (try dsimp only at hSw); go_simp⟩) (by assumption) rfl ?_
  simp only [Act.put, List.setIfInBounds_toArray, List.set_cons_zero, List.set_cons_succ]
  refine wpAnyH_takeD (i := 4) (d := 7) (v := .string T2) rfl (by kernel_rfl) (by kernel_rfl) (by kernel_rfl) (fun _ _ _ h => h) (Or.inl ⟨by rfl, by intro w hSw; (try dsimp only at hSw); go_simp⟩) (by assumption) rfl ?_
  simp only [Act.put, List.setIfInBounds_toArray, List.set_cons_zero, List.set_cons_succ]
  refine wpAnyH_ready (rs := [7]) (by kernel_rfl) (by simp) ?_
  refine AllReadyH.cons rfl (fun K hK => ?_) AllReadyH.nil
  go_simp
  refine (l6Hex_any _ key (by omega)).mono ?_
  rintro e w2 ⟨rfl, hb2⟩
  have HB2 : Hid (Below W.heap.size W w2) := HB1.out.trans (hb2.mono HB1.out.size)
  have e0 : w2.cell? ⟨w.heap.size, 0, none⟩ = some (.string key) := (HB2.out.cell (p := ⟨w.heap.size, 0, none⟩) hz).trans c0
  have e1 : w2.cell? ⟨w.heap.size, 1, none⟩ = some (.int .i64 (n : Int)) := (HB2.out.cell (p := ⟨w.heap.size, 1, none⟩) hz).trans c1
  rw [HX.out]
  clear hb2
  refine hK.out _ _ ?_ (fun hHeld => ?_)
  · exact ⟨e0, e1⟩
  clear hK K
  try simp only [Act.put, List.setIfInBounds_toArray, List.set_cons_zero, List.set_cons_succ]
  refine wpAnyH_takeD (i := 8) (d := 11) (v := .string T3) rfl (by kernel_rfl) (by kernel_rfl) (by kernel_rfl) (fun _ _ _ h => h) (Or.inl ⟨by rfl, by intro w hSw; (try dsimp only at hSw); go_simp⟩) (by assumption) rfl ?_
  simp only [Act.put, List.setIfInBounds_toArray, List.set_cons_zero, List.set_cons_succ]
  refine wpAnyH_takeD (i := 9) (d := 2) (v := .string T3) rfl (by kernel_rfl) (by kernel_rfl) (by kernel_rfl) (fun _ _ _ h => h) (Or.inl ⟨by rfl, by intro w hSw; (try dsimp only at hSw); go_simp⟩) (by assumption) rfl ?_
  simp only [Act.put, List.setIfInBounds_toArray, List.set_cons_zero, List.set_cons_succ]
  refine wpAnyH_done (by kernel_rfl) ?_ _
  go_wp2
  go_ret
  exact ⟨ret_str448 HF.out, HB0.out.trans (HB2.out.mono (Nat.le_of_lt hz))⟩
end Go.Proofs.YtdjpeickokoclaaDoor
