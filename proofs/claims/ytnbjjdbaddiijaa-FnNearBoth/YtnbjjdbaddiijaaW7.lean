/-
  What impl.Far tells: how far two words are; -1 of others.
-/
import Derived.Test.YtnbjjdbaddiijaaW2
import Derived.Test.YtnbjjdbaddiijaaW6
import Derived.Deep.RegionWith
namespace Go.Proofs.Ytnbjjdbaddiijaa
open Go.RowKit
set_option linter.unusedVariables false
theorem next_pre (r o : Nat → Int) (a b : ByteArray) (k : Nat) (w : World) (hk : k < a.size) (ha : a.size ≤ 12) (hb : b.size ≤ 12)
    (dr : ∀ j, j ≤ b.size → r j = D (lt a) (lt b) k j) (dt : 0 < k → ∀ j, j ≤ b.size → o j = D (lt a) (lt b) (k - 1) j) :
    Calls Try.prog 22 #[.agg (rowC r), .agg (rowC o), .string (a.extract 0 (k + 1)), .string b] w fun e w' =>
      ∃ g : Nat → Int, e = .returned (.agg (rowC g)) ∧ (∀ j, j ≤ b.size → g j = D (lt a) (lt b) (k + 1) j) ∧ Below w.heap.size w w' := by
  have hc : ∀ n, n ≤ k + 1 → ∀ j, D (lt (a.extract 0 (k + 1))) (lt b) n j = D (lt a) (lt b) n j := fun n hn j =>
    D_congr _ _ _ _ _ n j (Nat.le_refl _) (fun i hi => lt_extract a (k + 1) i (by omega)) (fun _ _ => rfl)
  refine (next_any r o (a.extract 0 (k + 1)) b k w (extract_size a k hk) (by omega) hb (fun j hj => by rw [hc k (by omega)]; exact dr j hj) (fun h j hj => by rw [hc (k - 1) (by omega)]; exact dt h j hj)).mono ?_
  rintro e w' ⟨g, rfl, hg, hb'⟩
  exact ⟨g, rfl, fun j hj => by rw [← hc (k + 1) (Nat.le_refl _)]; exact hg j hj, hb'⟩
theorem row_cells {w : World} {L : Nat} {g : Nat → Int} (h : w.heap[L]? = some (.cells (rowC g) 42 (0, 0))) : ∀ j, j < 13 → w.cell? ⟨L, j, none⟩ = some (.int .i64 (g j)) :=
  fun j hj => (cell_of_row w L j _ _ _ h).trans (rowC_get g j hj)
theorem row_fold (g : Nat → Int) : (#[.int .i64 (g 0), .int .i64 (g 1), .int .i64 (g 2), .int .i64 (g 3), .int .i64 (g 4), .int .i64 (g 5), .int .i64 (g 6), .int .i64 (g 7), .int .i64 (g 8), .int .i64 (g 9), .int .i64 (g 10), .int .i64 (g 11), .int .i64 (g 12)] : Array Value) = rowC g := rfl
theorem storeRow (L : Nat) (g : Nat → Int) (wx : World) (v : Nat → Int) (h : wx.heap[L]? = some (.cells (rowC g) 42 (0, 0))) :
    Sem.run Try.prog (storeCells ⟨L, 0, none⟩ (rowC v).toList) wx = .ok () (wx.setRow L (rowC v)) := by
  have := run_storeCells_from (P := Try.prog) L 42 (rowC v).toList 0 (rowC g) wx h (by simp [rowC]) (fun u hu => (Array.all_eq_true_iff_forall_mem.1 (rowC_one v)) u (by simpa using hu))
  simpa using this
set_option maxRecDepth 100000 in
set_option maxHeartbeats 8000000 in
theorem far_yes (a b : ByteArray) (w : World) (ha : wok a = true) (hb : wok b = true) (sa : a.size ≤ 12) (sb : b.size ≤ 12) :
    Calls Try.prog 9 #[.string a, .string b] w fun e w' => e = .returned (.int .i64 (far a b)) ∧ Below w.heap.size w w' := by
  have ma : a.size ≤ maxLen := by unfold maxLen; omega
  have mb : b.size ≤ maxLen := by unfold maxLen; omega
  go_enter Try.func9, Try.ntmps9
  go_wp2_with (first | (go_at_call 16; refine (wordOk_any _ _ (by assumption)).mono ?_; rintro e w' ⟨rfl, rfl⟩) | (go_at_call 21; refine (firstRow_any _).mono ?_; rintro e w1 ⟨rfl, hb1⟩; unfold rowC))
  go_loopw [7] (fun s wr => ∃ (k : Nat) (g o : Nat → Int), k ≤ a.size ∧ s = .int .i64 (k + 1) ∧ wr.heap[w1.heap.size]? = some (.cells (rowC g) 42 (0, 0)) ∧ wr.heap[w1.heap.size + 1]? = some (.cells (rowC o) 42 (0, 0)) ∧
      (∀ j, j ≤ b.size → g j = D (lt a) (lt b) k j) ∧ (0 < k → ∀ j, j ≤ b.size → o j = D (lt a) (lt b) (k - 1) j) ∧ w1.heap.size + 2 ≤ wr.heap.size ∧ Below w1.heap.size w1 wr) (fun s _ => a.size + 1 - (intOf s).toNat)
  case atStart =>
    refine ⟨0, fun j => j, fun _ => 0, Nat.zero_le _, rfl, ?_, ?_, ?_, fun h => absurd h (by omega), by simp, ?_⟩
    · rw [Below.heap_alloc _ _ _ (by simp), heap_alloc_last]; rfl
    · have := heap_alloc_last (w1.alloc (.cells (rowC fun j => j) 42)) (.cells (rowC fun _ => 0) 42)
      simpa [rowC] using this
    · intro j hj; rw [D_zero]
    · exact ((Below.refl _ _).alloc (Nat.le_refl _) _).alloc (by simp) _
  case round =>
    obtain ⟨k, g, o, hk, rfl, h5, h6, hg, ho, hsz, hbel⟩ := hrel
    have HG : Hid (∀ j, j ≤ b.size → g j = D (lt a) (lt b) k j) := hg
    have HO : Hid (0 < k → ∀ j, j ≤ b.size → o j = D (lt a) (lt b) (k - 1) j) := ho
    by_cases hlt : k < a.size
    · have c5 := row_cells h5
      have c6 := row_cells h6
      have fg := row_fold g
      have fo := row_fold o
      have hsz13 := rowC_size
      have s5 := storeRow w1.heap.size g
      have s6 := storeRow (w1.heap.size + 1) o
      clear hg ho
      go_wp2
      go_region_with (first | (go_at_call 22; refine (next_pre g o a b k _ hlt sa sb HG.out HO.out).mono ?_; rintro e w2 ⟨g2, rfl, hg2, hb2⟩; have h5' := (hb2.block w1.heap.size (by simp; omega)).trans h5; have h6' := (hb2.block (w1.heap.size + 1) (by simp; omega)).trans h6; have c5' := row_cells h5'; have c6' := row_cells h6'; have hr := fun c => (setRow_other w2 w1.heap.size (w1.heap.size + 1) c (by omega)).trans h6'))
      all_goals
        go_wp2
        go_roundw
        case rel =>
          refine ⟨k + 1, g2, g, by omega, by go_num, ?_, ?_, hg2, fun _ j hj => HG.out j hj, ?_, ?_⟩
          · exact (setRow_other _ _ _ _ (by omega)).trans (setRow_heap _ _ _ _ _ _ h5')
          · exact setRow_heap _ _ _ _ _ _ ((setRow_other _ _ _ _ (by omega)).trans h6')
          · have := hb2.size
            simp at this ⊢; omega
          · exact below_setRow (below_setRow (hbel.drew.trans ((hb2.mono (by simp; omega) : Below w1.heap.size wr.drew w2))) (Nat.le_refl _) _) (by omega) _
        case measure => simp [intOf]; omega
    · have hk' : k = a.size := by omega
      have hgb := hg b.size (Nat.le_refl _)
      have c5 := row_cells h5 b.size (by omega)
      have HF : Hid (far a b = g b.size) := by
        have : far a b = g b.size := by rw [hgb, hk']; rfl
        exact this
      clear hg ho hgb h5 h6 hk'
      go_wp2
      go_ret
      rw [HF.out]
      exact ⟨rfl, hb1.trans (hbel.mono hb1.size)⟩
set_option maxHeartbeats 400000 in
theorem far_no (a b : ByteArray) (w : World) (ma : a.size ≤ maxLen) (mb : b.size ≤ maxLen) (h : wok a = false ∨ wok b = false) :
    Calls Try.prog 9 #[.string a, .string b] w fun e w' => e = .returned (.int .i64 (-1)) ∧ Below w.heap.size w w' := by
  cases h1 : wok a with
  | false =>
    go_enter Try.func9, Try.ntmps9
    go_wp2_with (go_at_call 16; refine (wordOk_any _ _ (by assumption)).mono ?_; rintro e w' ⟨rfl, rfl⟩)
    go_ret
    exact ⟨rfl, Below.refl _ _⟩
  | true =>
    have h2 : wok b = false := by simpa [h1] using h
    go_enter Try.func9, Try.ntmps9
    go_wp2_with (go_at_call 16; refine (wordOk_any _ _ (by assumption)).mono ?_; rintro e w' ⟨rfl, rfl⟩)
    go_ret
    exact ⟨rfl, Below.refl _ _⟩
/-- How far two words are; -1 of others. -/
def farW (a b : ByteArray) : Int := if wok a = true ∧ wok b = true then far a b else -1
theorem wok_size {a : ByteArray} (h : wok a = true) : 1 ≤ a.size ∧ a.size ≤ 12 := by
  unfold wok at h
  simp only [Bool.and_eq_true, decide_eq_true_eq] at h
  omega
theorem implFar_any (a b : ByteArray) (w : World) (ma : a.size ≤ maxLen) (mb : b.size ≤ maxLen) :
    Calls Try.prog 9 #[.string a, .string b] w fun e w' => e = .returned (.int .i64 (farW a b)) ∧ Below w.heap.size w w' := by
  by_cases h : wok a = true ∧ wok b = true
  · unfold farW
    rw [if_pos h]
    exact far_yes a b w h.1 h.2 (wok_size h.1).2 (wok_size h.2).2
  · unfold farW
    rw [if_neg h]
    refine far_no a b w ma mb ?_
    cases h1 : wok a with
    | false => exact .inl rfl
    | true => exact .inr (by simpa [h1] using h)
end Go.Proofs.Ytnbjjdbaddiijaa
