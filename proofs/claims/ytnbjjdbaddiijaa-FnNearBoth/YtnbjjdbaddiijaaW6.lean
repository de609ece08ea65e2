/-
  What the method next does: the row of a beginning that is one letter longer.
-/
import Derived.Test.YtnbjjdbaddiijaaW5
import Derived.Laws.CopyOwn
namespace Go.Proofs.Ytnbjjdbaddiijaa
open Go.RowKit
set_option linter.unusedVariables false
theorem built_row (n : Nat) : (#[.int .i64 (n : Int), .int .i64 0, .int .i64 0, .int .i64 0, .int .i64 0, .int .i64 0, .int .i64 0, .int .i64 0, .int .i64 0, .int .i64 0, .int .i64 0, .int .i64 0, .int .i64 0] : Array Value) = rowC (upd (fun _ => 0) 0 n) := by
  simp [rowC, upd]
theorem rowC_one (g : Nat → Int) : (rowC g).all (·.oneCell') = true := by simp [rowC, Value.oneCell']
theorem zero_row : (#[.int .i64 0, .int .i64 0, .int .i64 0, .int .i64 0, .int .i64 0, .int .i64 0, .int .i64 0, .int .i64 0, .int .i64 0, .int .i64 0, .int .i64 0, .int .i64 0, .int .i64 0] : Array Value) = rowC (fun _ => 0) := rfl
set_option maxRecDepth 100000 in
set_option maxHeartbeats 1000000 in
theorem next_any (r o : Nat → Int) (a b : ByteArray) (i : Nat) (w : World) (ha : a.size = i + 1) (hi : i ≤ 11) (hb : b.size ≤ 12)
    (dr : ∀ j, j ≤ b.size → r j = D (lt a) (lt b) i j) (dt : 0 < i → ∀ j, j ≤ b.size → o j = D (lt a) (lt b) (i - 1) j) :
    Calls Try.prog 22 #[.agg (rowC r), .agg (rowC o), .string a, .string b] w fun e w' =>
      ∃ g : Nat → Int, e = .returned (.agg (rowC g)) ∧ (∀ j, j ≤ b.size → g j = D (lt a) (lt b) (i + 1) j) ∧ Below w.heap.size w w' := by
  have hm2 := run_mn2
  have hm3 := run_mn3
  have HA : Hid (a.size = i + 1) := ha
  have HDR : Hid (∀ j, j ≤ b.size → r j = D (lt a) (lt b) i j) := dr
  have HDT : Hid (0 < i → ∀ j, j ≤ b.size → o j = D (lt a) (lt b) (i - 1) j) := dt
  have hp1 : 1 ≤ a.size := by omega
  have hp2 : a.size ≤ 12 := by omega
  clear ha dr dt
  go_enter Try.func22, Try.ntmps22
  go_wp2
  go_loopw [10] (fun s wr => ∃ (k : Nat) (g : Nat → Int), k ≤ b.size ∧ s = .int .i64 (k + 1) ∧ NextInv w r o g wr ∧ (∀ j, j ≤ k → g j = D (lt a) (lt b) (i + 1) j)) (fun s _ => b.size + 1 - (intOf s).toNat)
  case atStart =>
    refine ⟨0, upd (fun _ => 0) 0 a.size, Nat.zero_le _, rfl, ?_, ?_⟩
    · rw [built_row, zero_row]; exact NextInv.start w r o a.size hp2
    · intro j hj
      have : j = 0 := by omega
      subst this
      rw [D_left]; simp [upd, HA.out]
  case round =>
    obtain ⟨k, g, hk, rfl, hinv, hgd⟩ := hrel
    have HI : Hid (NextInv w r o g wr) := hinv
    have HG : Hid (∀ j, j ≤ k → g j = D (lt a) (lt b) (i + 1) j) := hgd
    by_cases hlt : k < b.size
    · have hr1 := HDR.out (k + 1) (by omega)
      have hr0 := HDR.out k (by omega)
      have hg0 := hgd k (by omega)
      have HR := D_round (lt a) (lt b) i k r o (g k) hr1 hr0 hg0
      have HV : Hid _ := HR
      have d1 := D_bd (lt a) (lt b) _ i (k + 1) (Nat.le_refl _)
      have d0 := D_bd (lt a) (lt b) _ i k (Nat.le_refl _)
      have d2 := D_bd (lt a) (lt b) _ (i + 1) k (Nat.le_refl _)
      have d3 := D_bd (lt a) (lt b) _ (i + 1) (k + 1) (Nat.le_refl _)
      have d4 := D_bd (lt a) (lt b) _ (i - 1) (k - 1) (Nat.le_refl _)
      have b1 : 0 ≤ r (k + 1) ∧ r (k + 1) ≤ 100 := by rw [hr1]; omega
      have b0 : 0 ≤ r k ∧ r k ≤ 100 := by rw [hr0]; omega
      have b2 : 0 ≤ g k ∧ g k ≤ 100 := by rw [hg0]; omega
      have m1 := mn_le (r (k + 1)) (g k)
      have m2 := mn_le (mn (r (k + 1)) (g k)) (r k)
      have m3 := mn_le (mn (mn (r (k + 1)) (g k)) (r k) + 1) (r k)
      have cr1 := (cell_of_row wr w.heap.size (k + 1) _ _ _ hinv.1).trans (rowC_get r (k + 1) (by omega))
      have cr0 := (cell_of_row wr w.heap.size k _ _ _ hinv.1).trans (rowC_get r k (by omega))
      have ch1 := (cell_of_row wr (w.heap.size + 3) (k + 1) _ _ _ hinv.2.2.2.1).trans (rowC_get g (k + 1) (by omega))
      have ch0 := (cell_of_row wr (w.heap.size + 3) k _ _ _ hinv.2.2.2.1).trans (rowC_get g k (by omega))
      have fz1 := Go.Joins.unfrozen_of_block hinv.2.2.2.1 (k + 1)
      obtain ⟨p, hp⟩ : ∃ p : Nat, a.size - 1 = p := ⟨_, rfl⟩
      have r1 : IntKind.i64.wrap ((a.size : Int) - 1) = (p : Int) := by rw [IntWalk.i64_in _ (by omega)]; omega
      have lp : (p : Int) < (a.size : Int) := by omega
      have hpi : p = i := by have := HA.out; omega
      have HC : Hid (cost (lt a) (lt b) i k = if (((a[p]'(by omega)).toNat : Int) == ((b[k]'(by omega)).toNat : Int)) then 0 else 1) := by
        subst hpi
        have e : cost (lt a) (lt b) p k = if (((a[p]'(by omega)).toNat : Int) == ((b[k]'(by omega)).toNat : Int)) then 0 else 1 := by
          unfold cost
          rw [lt_get a p (by omega), lt_get b k hlt, u8_int]
          simp
        exact e
      have HT : Hid (turnedEnds a (b.extract 0 (k + 1)) = tr (lt a) (lt b) i k) := turned_pre a b i k HA.out hlt
      clear hinv hgd HR hr1 hr0 hg0 d1 d0 d2 d3 d4 hp hpi
      cases e1 : (((a[p]'(by omega)).toNat : Int) == ((b[k]'(by omega)).toNat : Int)) with
      | true =>
        cases e2 : turnedEnds a (b.extract 0 (k + 1)) with
        | true =>
          obtain ⟨q, hq⟩ : ∃ q : Nat, q = k - 1 := ⟨_, rfl⟩
          have htr : tr (lt a) (lt b) i k = true := by rw [← HT.out]; exact e2
          have hik : 0 < i ∧ 0 < k := by
            unfold tr at htr
            simp only [Bool.and_eq_true, decide_eq_true_eq] at htr
            exact ⟨htr.1, htr.2.1⟩
          have hoq := HDT.out hik.1 (k - 1) (by omega)
          have HO : Hid (o (k - 1) = D (lt a) (lt b) (i - 1) (k - 1)) := hoq
          have d4 := D_bd (lt a) (lt b) _ (i - 1) (k - 1) (Nat.le_refl _)
          have bq : 0 ≤ o q ∧ o q ≤ 100 := by rw [hq, hoq]; omega
          have m4 := mn_le (mn (mn (mn (r (k + 1)) (g k)) (r k) + 1) (r k)) (o q + 1)
          have m5 := mn_le (mn (mn (r (k + 1)) (g k)) (r k) + 1) (o q + 1)
          have co := (cell_of_row wr (w.heap.size + 1) q _ _ _ HI.out.2.1).trans (rowC_get o q (by omega))
          have r2 : IntKind.i64.wrap ((k : Int) + 1 - 2) = (q : Int) := by rw [IntWalk.i64_in _ (by omega)]; omega
          have r3 : IntKind.i64.wrap ((k : Int) - 1) = (q : Int) := by rw [IntWalk.i64_in _ (by omega)]; omega
          have r4 : (k : Int) + 1 - 2 = (q : Int) := by omega
          have lq : q < 13 := by omega
          have HQ : Hid (q = k - 1) := hq
          clear hq htr hik hoq d4
          go_wp2
          go_region
          go_wp2
          go_quiet (fail)
          go_wp2
          go_region
          go_wp2_with fail
          refine (endTurned_raw _ _ _ (by omega) (by rw [extract_size b k hlt]; omega)).mono ?_
          rintro e w1 ⟨rfl, n1, rfl⟩
          rw [e2]
          go_wp2
          go_region
          go_wp2
          go_roundw
          case rel =>
            refine ⟨k + 1, upd (upd (upd g (k + 1) (mn (mn (r (k + 1)) (g k)) (r k) + 1)) (k + 1) (mn (mn (mn (r (k + 1)) (g k)) (r k) + 1) (r k))) (k + 1) (mn (mn (mn (mn (r (k + 1)) (g k)) (r k) + 1) (r k)) (o q + 1)), by omega, by go_num, ?_, ?_⟩
            · repeat (first | exact HI.out | refine NextInv.drewN ?_ _ | refine NextInv.drew ?_ | refine NextInv.set ?_ _ _ (by omega) (by omega))
            · intro j hj
              by_cases ej : j = k + 1
              · subst ej
                have hd := HV.out.2.2.1 (by rw [HC.out, e1]; rfl) (by rw [← HT.out]; exact e2) HO.out
                simp only [upd, if_true]
                rw [HQ.out]
                exact hd
              · simp only [upd, if_neg ej]
                exact HG.out j (by omega)
          case measure => simp [intOf]; omega
        | false =>
          go_wp2
          go_region
          go_wp2
          go_quiet (fail)
          go_wp2
          go_region
          go_wp2_with fail
          refine (endTurned_raw _ _ _ (by omega) (by rw [extract_size b k hlt]; omega)).mono ?_
          rintro e w1 ⟨rfl, n1, rfl⟩
          rw [e2]
          go_wp2
          go_roundw
          case rel =>
            refine ⟨k + 1, upd (upd g (k + 1) (mn (mn (r (k + 1)) (g k)) (r k) + 1)) (k + 1) (mn (mn (mn (r (k + 1)) (g k)) (r k) + 1) (r k)), by omega, by go_num, ?_, ?_⟩
            · repeat (first | exact HI.out | refine NextInv.drewN ?_ _ | refine NextInv.drew ?_ | refine NextInv.set ?_ _ _ (by omega) (by omega))
            · intro j hj
              by_cases ej : j = k + 1
              · subst ej
                have hd := HV.out.1 (by rw [HC.out, e1]; rfl) (by rw [← HT.out]; exact e2)
                simp only [upd, if_true]
                exact hd
              · simp only [upd, if_neg ej]
                exact HG.out j (by omega)
          case measure => simp [intOf]; omega
      | false =>
        cases e2 : turnedEnds a (b.extract 0 (k + 1)) with
        | true =>
          obtain ⟨q, hq⟩ : ∃ q : Nat, q = k - 1 := ⟨_, rfl⟩
          have htr : tr (lt a) (lt b) i k = true := by rw [← HT.out]; exact e2
          have hik : 0 < i ∧ 0 < k := by
            unfold tr at htr
            simp only [Bool.and_eq_true, decide_eq_true_eq] at htr
            exact ⟨htr.1, htr.2.1⟩
          have hoq := HDT.out hik.1 (k - 1) (by omega)
          have HO : Hid (o (k - 1) = D (lt a) (lt b) (i - 1) (k - 1)) := hoq
          have d4 := D_bd (lt a) (lt b) _ (i - 1) (k - 1) (Nat.le_refl _)
          have bq : 0 ≤ o q ∧ o q ≤ 100 := by rw [hq, hoq]; omega
          have m4 := mn_le (mn (mn (mn (r (k + 1)) (g k)) (r k) + 1) (r k)) (o q + 1)
          have m5 := mn_le (mn (mn (r (k + 1)) (g k)) (r k) + 1) (o q + 1)
          have co := (cell_of_row wr (w.heap.size + 1) q _ _ _ HI.out.2.1).trans (rowC_get o q (by omega))
          have r2 : IntKind.i64.wrap ((k : Int) + 1 - 2) = (q : Int) := by rw [IntWalk.i64_in _ (by omega)]; omega
          have r3 : IntKind.i64.wrap ((k : Int) - 1) = (q : Int) := by rw [IntWalk.i64_in _ (by omega)]; omega
          have r4 : (k : Int) + 1 - 2 = (q : Int) := by omega
          have lq : q < 13 := by omega
          have HQ : Hid (q = k - 1) := hq
          clear hq htr hik hoq d4
          go_wp2
          go_region
          go_wp2
          go_quiet (fail)
          go_wp2_with fail
          refine (endTurned_raw _ _ _ (by omega) (by rw [extract_size b k hlt]; omega)).mono ?_
          rintro e w1 ⟨rfl, n1, rfl⟩
          rw [e2]
          go_wp2
          go_region
          go_wp2
          go_roundw
          case rel =>
            refine ⟨k + 1, upd (upd g (k + 1) (mn (mn (r (k + 1)) (g k)) (r k) + 1)) (k + 1) (mn (mn (mn (r (k + 1)) (g k)) (r k) + 1) (o q + 1)), by omega, by go_num, ?_, ?_⟩
            · repeat (first | exact HI.out | refine NextInv.drewN ?_ _ | refine NextInv.drew ?_ | refine NextInv.set ?_ _ _ (by omega) (by omega))
            · intro j hj
              by_cases ej : j = k + 1
              · subst ej
                have hd := HV.out.2.2.2 (by rw [HC.out, e1]; rfl) (by rw [← HT.out]; exact e2) HO.out
                simp only [upd, if_true]
                rw [HQ.out]
                exact hd
              · simp only [upd, if_neg ej]
                exact HG.out j (by omega)
          case measure => simp [intOf]; omega
        | false =>
          go_wp2
          go_region
          go_wp2
          go_quiet (fail)
          go_wp2_with fail
          refine (endTurned_raw _ _ _ (by omega) (by rw [extract_size b k hlt]; omega)).mono ?_
          rintro e w1 ⟨rfl, n1, rfl⟩
          rw [e2]
          go_wp2
          go_roundw
          case rel =>
            refine ⟨k + 1, upd g (k + 1) (mn (mn (r (k + 1)) (g k)) (r k) + 1), by omega, by go_num, ?_, ?_⟩
            · repeat (first | exact HI.out | refine NextInv.drewN ?_ _ | refine NextInv.drew ?_ | refine NextInv.set ?_ _ _ (by omega) (by omega))
            · intro j hj
              by_cases ej : j = k + 1
              · subst ej
                have hd := HV.out.2.1 (by rw [HC.out, e1]; rfl) (by rw [← HT.out]; exact e2)
                simp only [upd, if_true]
                exact hd
              · simp only [upd, if_neg ej]
                exact HG.out j (by omega)
          case measure => simp [intOf]; omega
    · have hk' : k = b.size := by omega
      have hu := Try.underlying42
      have hs : (Try.prog.info? 42).map (·.size) = some 13 := by kernel_rfl
      have HU : Hid _ := hu
      have HS : Hid _ := hs
      clear hinv hgd hu hs hk'
      go_wp2_with (first
        | (refine wpList_load_row rfl 42 _ rfl (w.heap.size + 1 + 1 + 1) rfl 42 (rowC g) (0, 0) _ HI.out.2.2.2.1 HU rfl HS ?_)
        | (refine wpList_store_row rfl 42 _ _ rfl (w.heap.size + 1 + 1) (rowC g) rfl rfl 42 (rowC fun _ => 0) HI.out.2.2.1 HS rfl (rowC_one g) ?_))
      refine bodyPost_ret (v := .agg (rowC g)) (results_cell_row Try.results22 _ _ (w.heap.size + 1 + 1) 42 (rowC g) (0, 0) _ rfl (setRow_heap _ _ _ _ _ _ HI.out.2.2.1) HU rfl HS) rfl ⟨g, rfl, fun j hj => HG.out j (by omega), ?_⟩
      exact below_setRow HI.out.2.2.2.2.2.1 (by omega) _
end Go.Proofs.Ytnbjjdbaddiijaa
