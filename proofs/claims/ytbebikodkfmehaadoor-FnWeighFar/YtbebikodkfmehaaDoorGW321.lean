/-
  What it costs to make one word of another: the method weighed, impl.WeighFar.
-/
import Derived.Test.YtbebikodkfmehaaDoorW311
import Derived.Test.YtbebikodkfmehaaDoorW7
import Derived.Test.YtbebikodkfmehaaDoorGM42
import Derived.Test.YtbebikodkfmehaaDoorGW9
namespace Go.Proofs.YtbebikodkfmehaaDoor
open Go.RowKit
set_option linter.unusedVariables false
/-- What one letter costs for another one. -/
def kc (c d : UInt8) : Int := kfB (kpB c) (kpB d)
theorem kc_bd (c d : UInt8) : 0 ≤ kc c d ∧ kc c d ≤ 4 := by
  have h1 : 0 ≤ apI (kpB c).1 (kpB d).1 := by unfold apI; split <;> omega
  have h2 : 0 ≤ apI (kpB c).2 (kpB d).2 := by unfold apI; split <;> omega
  unfold kc kfB ls; split <;> split <;> omega
/-- The cost of two texts. -/
def weigh (a b : ByteArray) : Int := Wc kc (lt a) (lt b) a.size b.size
theorem Wk_bd (x y : Nat → UInt8) (i k : Nat) : 0 ≤ Wc kc x y i k ∧ Wc kc x y i k ≤ 4 * ((i : Int) + k) := Wc_bd kc x y kc_bd _ i k (Nat.le_refl _)
theorem kfT_letters (a : ByteArray) (b : ByteArray) (k : Nat) (ha : a.size = 1) (hk : k < b.size) (h1 : 0 ≤ (kpT a).1) (h2 : 0 ≤ (kpB b[k]).1) : kfT a (b.extract k (k + 1)) = kc (lt a 0) (lt b k) := by
  have hs : (b.extract k (k + 1)).size = 1 := by simp; omega
  have e1 : kpT a = kpB (lt a 0) := by rw [lt_get a 0 (by omega)]; unfold kpT; rw [dif_pos ha]
  have e2 : kpT (b.extract k (k + 1)) = kpB (lt b k) := by
    rw [lt_get b k hk]; unfold kpT; rw [dif_pos hs]
    congr 1
    simp [ByteArray.getElem_extract]
  have e3 : kpB b[k] = kpB (lt b k) := by rw [lt_get b k hk]
  unfold kfT
  rw [if_neg (by rw [e1] at h1; rw [e1, e2]; rw [e3] at h2; omega), e1, e2]
  rfl
/-- Each letter of a word stands on the keyboard. -/
theorem word_keys (s : ByteArray) (h : wok s = true) (k : Nat) (hk : k < s.size) : 0 ≤ (kpB s[k]).1 := by
  unfold wok at h
  simp only [Bool.and_eq_true, decide_eq_true_eq] at h
  have hm : s[k] ∈ s.data.toList := by
    have : s[k] = s.data[k] := rfl
    rw [this]; simp
  have h2 := List.all_eq_true.1 h.2.1 _ hm
  have h3 := (kp_facts s[k]).1
  simp only [Bool.and_eq_true, decide_eq_true_eq] at h2
  have h4 : (decide (97 ≤ s[k].toNat) && decide (s[k].toNat ≤ 122)) = true := by simp only [Bool.and_eq_true, decide_eq_true_eq]; omega
  rw [h4] at h3
  simpa using h3.symm
/-- What holds of memory between two rounds. -/
def WInv (w : World) (r g : Nat → Int) (wr : World) : Prop :=
  wr.heap[w.heap.size]? = some (.cells (rowC r) 38 (0, 0)) ∧ wr.heap[w.heap.size + 1]? = some (.cells (rowC fun _ => 0) 38 (0, 0)) ∧
  wr.heap[w.heap.size + 2]? = some (.cells (rowC g) 38 (0, 0)) ∧ (∀ j, j < 13 → 0 ≤ g j ∧ g j ≤ 1000) ∧ Below w.heap.size w wr ∧ w.heap.size + 3 = wr.heap.size
theorem WInv.drewN {w wr : World} {r g : Nat → Int} (h : WInv w r g wr) (n : Nat) : WInv w r g (wr.drewN n) :=
  ⟨h.1, h.2.1, h.2.2.1, h.2.2.2.1, below_drewN h.2.2.2.2.1 n, h.2.2.2.2.2⟩
theorem WInv.drew {w wr : World} {r g : Nat → Int} (h : WInv w r g wr) : WInv w r g wr.drew := h.drewN 1
theorem WInv.set {w wr : World} {r g : Nat → Int} (h : WInv w r g wr) (k : Nat) (v : Int) (hk : k < 13) (hv : 0 ≤ v ∧ v ≤ 1000) :
    WInv w r (upd g k v) (wr.setCell ⟨w.heap.size + 2, k, none⟩ (.int .i64 v)) := by
  obtain ⟨h1, h2, h4, h5, h6, h7⟩ := h
  refine ⟨?_, ?_, ?_, ?_, ?_, ?_⟩
  · rw [heap_setCell_other _ _ _ _ (by simp)]; exact h1
  · rw [heap_setCell_other _ _ _ _ (by simp)]; exact h2
  · rw [Go.Joins.block_setCell h4, rowC_set _ _ _ hk]
  · intro j hj
    unfold upd
    split
    · exact hv
    · exact h5 j hj
  · exact h6.setCell (by simp) _
  · rw [h7]; simp
theorem WInv.start (w : World) (r : Nat → Int) (n : Int) (hn : 0 ≤ n ∧ n ≤ 1000) :
    WInv w r (upd (fun _ => 0) 0 n) (((w.alloc (.cells (rowC r) 38)).alloc (.cells (rowC fun _ => 0) 38)).alloc (.cells (rowC (upd (fun _ => 0) 0 n)) 38)) := by
  refine ⟨?_, ?_, ?_, ?_, ?_, ?_⟩
  · rw [Below.heap_alloc _ _ _ (by simp <;> omega), Below.heap_alloc _ _ _ (by simp <;> omega), heap_alloc_last]
  · rw [Below.heap_alloc _ _ _ (by simp <;> omega)]
    have := heap_alloc_last (w.alloc (.cells (rowC r) 38)) (.cells (rowC fun _ => 0) 38)
    simpa using this
  · have := heap_alloc_last ((w.alloc (.cells (rowC r) 38)).alloc (.cells (rowC fun _ => 0) 38)) (.cells (rowC (upd (fun _ => 0) 0 n)) 38)
    simpa using this
  · intro j hj; unfold upd; split
    · exact hn
    · simp
  · exact (((Below.refl _ _).alloc (Nat.le_refl _) _).alloc (by simp <;> omega) _).alloc (by simp <;> omega) _
  · simp
theorem keyTab.drewN {w : World} (h : keyTab w) (n : Nat) : keyTab (w.drewN n) := h.below ⟨rfl, rfl, rfl, Nat.le_refl _, fun _ _ => rfl⟩
theorem built_rowI (n : Int) : (#[.int .i64 n, .int .i64 0, .int .i64 0, .int .i64 0, .int .i64 0, .int .i64 0, .int .i64 0, .int .i64 0, .int .i64 0, .int .i64 0, .int .i64 0, .int .i64 0, .int .i64 0] : Array Value) = rowC (upd (fun _ => 0) 0 n) := by
  simp [rowC, upd]
set_option maxRecDepth 100000 in
set_option maxHeartbeats 2000000 in
theorem weighed_any (r : Nat → Int) (a b : ByteArray) (x : Nat → UInt8) (i : Nat) (w : World) (ha : a.size = 1) (hx : lt a 0 = x i) (hi : i ≤ 11) (hb : b.size ≤ 12) (ka : 0 ≤ (kpT a).1) (kb : ∀ k (h : k < b.size), 0 ≤ (kpB b[k]).1) (ht : keyTab w)
    (dr : ∀ j, j ≤ b.size → r j = Wc kc x (lt b) i j) :
    Calls Tryd.prog 21 #[.agg (rowC r), .string a, .string b] w fun e w' =>
      ∃ g : Nat → Int, e = .returned (.agg (rowC g)) ∧ (∀ j, j ≤ b.size → g j = Wc kc x (lt b) (i + 1) j) ∧ Below w.heap.size w w' := by
  have hm3 := run_mn3
  have HDR : Hid (∀ j, j ≤ b.size → r j = Wc kc x (lt b) i j) := dr
  have HT : Hid (keyTab w) := ht
  have HKB : Hid (∀ k (h : k < b.size), 0 ≤ (kpB b[k]).1) := kb
  have HKA : Hid (0 ≤ (kpT a).1) := ka
  have HX : Hid (lt a 0 = x i) := hx
  have HA1 : Hid (a.size = 1) := ha
  have hr00 := dr 0 (by omega)
  rw [Wc_left] at hr00
  have b00 : 0 ≤ r 0 ∧ r 0 ≤ 100 := by omega
  have ham : a.size ≤ maxLen := by unfold maxLen; omega
  have HAM : Hid _ := ham
  have c00 : (rowC r)[0]? = some (.int .i64 (r 0)) := rowC_get r 0 (by omega)
  have HR0 : Hid (r 0 = 4 * i) := hr00
  clear dr ht kb ka hx ha ham hr00
  go_enter Tryd.func21, Tryd.ntmps21
  go_wp2
  go_loopw [8] (fun s wr => ∃ (k : Nat) (g : Nat → Int), k ≤ b.size ∧ s = .int .i64 (k + 1) ∧ WInv w r g wr ∧ (∀ j, j ≤ k → g j = Wc kc x (lt b) (i + 1) j)) (fun s _ => b.size + 1 - (intOf s).toNat)
  case atStart =>
    refine ⟨0, upd (fun _ => 0) 0 (r 0 + 4), Nat.zero_le _, rfl, ?_, ?_⟩
    · rw [zero_row, built_rowI (r 0 + 4)]; exact WInv.start w r (r 0 + 4) (by omega)
    · intro j hj
      have : j = 0 := by omega
      subst this
      rw [Wc_left]; simp [upd, HR0.out]; omega
  case round =>
    obtain ⟨k, g, hk, rfl, hinv, hgd⟩ := hrel
    have HI : Hid (WInv w r g wr) := hinv
    have HG : Hid (∀ j, j ≤ k → g j = Wc kc x (lt b) (i + 1) j) := hgd
    by_cases hlt : k < b.size
    · have hr1 := HDR.out (k + 1) (by omega)
      have hr0 := HDR.out k (by omega)
      have hg0 := hgd k (by omega)
      have d1 := Wk_bd x (lt b) i (k + 1)
      have d0 := Wk_bd x (lt b) i k
      have d2 := Wk_bd x (lt b) (i + 1) k
      have b1 : 0 ≤ r (k + 1) ∧ r (k + 1) ≤ 200 := by rw [hr1]; omega
      have b0 : 0 ≤ r k ∧ r k ≤ 200 := by rw [hr0]; omega
      have b2 : 0 ≤ g k ∧ g k ≤ 200 := by rw [hg0]; omega
      obtain ⟨C, hC⟩ : ∃ C, kfT a (b.extract k (k + 1)) = C := ⟨_, rfl⟩
      have hCk : C = kc (x i) (lt b k) := by rw [← hC, kfT_letters a b k HA1.out hlt HKA.out (HKB.out k hlt), HX.out]
      have bC : 0 ≤ C ∧ C ≤ 4 := by rw [hCk]; exact kc_bd _ _
      have HC : Hid (kfT a (b.extract k (k + 1)) = C) := hC
      have HV : Hid (mn (mn (r (k + 1) + 4) (g k + 4)) (r k + C) = Wc kc x (lt b) (i + 1) (k + 1)) := by
        show mn (mn _ _) _ = _
        rw [Wc_succ, hr1, hr0, hg0, hCk]; unfold mn; repeat' split
        all_goals omega
      have hbm : (b.extract k (k + 1)).size ≤ maxLen := by unfold maxLen; rw [ByteArray.size_extract]; omega
      have HBM : Hid _ := hbm
      have m1 := mn_le (r (k + 1) + 4) (g k + 4)
      have m2 := mn_le (mn (r (k + 1) + 4) (g k + 4)) (r k + C)
      have cr1 := (cell_of_row wr w.heap.size (k + 1) _ _ _ hinv.1).trans (rowC_get r (k + 1) (by omega))
      have cr0 := (cell_of_row wr w.heap.size k _ _ _ hinv.1).trans (rowC_get r k (by omega))
      have ch1 := (cell_of_row wr (w.heap.size + 2) (k + 1) _ _ _ hinv.2.2.1).trans (rowC_get g (k + 1) (by omega))
      have ch0 := (cell_of_row wr (w.heap.size + 2) k _ _ _ hinv.2.2.1).trans (rowC_get g k (by omega))
      have fz1 := Go.Joins.unfrozen_of_block hinv.2.2.1 (k + 1)
      have HTR : Hid (keyTab wr) := HT.out.below hinv.2.2.2.2.1
      clear hinv hgd hr1 hr0 hg0 d1 d0 d2 hC hCk hbm
      go_wp2
      go_quiet ((go_at_call 6; refine (implKeyFar_any a (b.extract k (k + 1)) _ HAM.out HBM.out (by first | exact HTR.out | exact HTR.out.drewN _)).mono ?_; rintro e w'' ⟨he, rfl⟩; rw [HC.out] at he; subst he; exact ⟨rfl, _, rfl⟩))
      go_wp2
      go_region
      go_wp2
      go_roundw
      case rel =>
        refine ⟨k + 1, upd g (k + 1) (mn (mn (r (k + 1) + 4) (g k + 4)) (r k + C)), by omega, by go_num, ?_, ?_⟩
        · repeat (first | exact HI.out | refine WInv.drewN ?_ _ | refine WInv.drew ?_ | refine WInv.set ?_ _ _ (by omega) (by omega))
        · intro j hj
          by_cases ej : j = k + 1
          · subst ej
            simp only [upd, if_true]
            exact HV.out
          · simp only [upd, if_neg ej]
            exact HG.out j (by omega)
      case measure => simp [intOf]; omega
    · have hk' : k = b.size := by omega
      have hu := Tryd.underlying38
      have hs : (Tryd.prog.info? 38).map (·.size) = some 13 := by kernel_rfl
      have HU : Hid _ := hu
      have HS : Hid _ := hs
      clear hinv hgd hu hs hk'
      go_wp2_with (first
        | (refine wpList_load_row rfl 38 _ rfl (w.heap.size + 1 + 1) rfl 38 (rowC g) (0, 0) _ HI.out.2.2.1 HU rfl HS ?_)
        | (refine wpList_store_row rfl 38 _ _ rfl (w.heap.size + 1) (rowC g) rfl rfl 38 (rowC fun _ => 0) HI.out.2.1 HS rfl (rowC_one g) ?_))
      refine bodyPost_ret (v := .agg (rowC g)) (results_cell_row Tryd.results21 _ _ (w.heap.size + 1) 38 (rowC g) (0, 0) _ rfl (setRow_heap _ _ _ _ _ _ HI.out.2.1) HU rfl HS) rfl ⟨g, rfl, fun j hj => HG.out j (by omega), ?_⟩
      exact below_setRow HI.out.2.2.2.2.1 (by omega) _
/-- The row of which the first k numbers are taken four times. -/
def mulR (k : Nat) (j : Nat) : Int := if j < k then 4 * (j : Int) else j
theorem mulR_set (k : Nat) : upd (mulR k) k (4 * (k : Int)) = mulR (k + 1) := by
  funext j
  unfold upd mulR
  by_cases e : j = k
  · subst e; rw [if_pos rfl, if_pos (by omega)]
  · rw [if_neg e]
    by_cases h : j < k
    · rw [if_pos h, if_pos (by omega)]
    · rw [if_neg h, if_neg (by omega)]
theorem mulR_zero : mulR 0 = (fun j : Nat => (j : Int)) := by funext j; unfold mulR; rw [if_neg (by omega)]
theorem wpAny_takeD4 {P : Program} {md : Region.Mode} {ops : Array Oper} {Q : Exit → Act → World → Prop} {i d : Nat} {oi : Oper} {v : Value} {fuel : Nat} {listed : Array Bool} {a : Act} {w : World} (hi : ops[i]? = some oi)
    (hs : Region.noSelect ops = true) (hf : Region.free md ops listed i = true) (hr : (Region.ready md ops listed).contains i = true)
    (hQ : ∀ c a w, Q (.panic c) (a.put oi.dst v) w → Q (.panic c) a w) (hy : Yields P ops oi v a) (hd : oi.dst = some d)
    (h : wpAny P md ops Q fuel (listed.setIfInBounds i true) (a.put (some d) v) w) : wpAny P md ops Q (fuel + 1) listed a w :=
  wpAny_take hi hs hf hr hQ hy (by rw [hd]; exact h)
theorem weighed_pre (g : Nat → Int) (a b : ByteArray) (k : Nat) (w : World) (hk : k < a.size) (ha : a.size ≤ 12) (hb : b.size ≤ 12) (ka : ∀ k (h : k < a.size), 0 ≤ (kpB a[k]).1) (kb : ∀ k (h : k < b.size), 0 ≤ (kpB b[k]).1) (ht : keyTab w)
    (dr : ∀ j, j ≤ b.size → g j = Wc kc (lt a) (lt b) k j) :
    Calls Tryd.prog 21 #[.agg (rowC g), .string (a.extract k (k + 1)), .string b] w fun e w' =>
      ∃ g2 : Nat → Int, e = .returned (.agg (rowC g2)) ∧ (∀ j, j ≤ b.size → g2 j = Wc kc (lt a) (lt b) (k + 1) j) ∧ Below w.heap.size w w' := by
  have hs : (a.extract k (k + 1)).size = 1 := by simp; omega
  have e0 : (a.extract k (k + 1))[0]'(by omega) = a[k] := by simp [ByteArray.getElem_extract]
  refine weighed_any g (a.extract k (k + 1)) b (lt a) k w hs ?_ (by omega) hb ?_ kb ht dr
  · rw [lt_get _ 0 (by omega), e0, lt_get a k hk]
  · unfold kpT; rw [dif_pos hs, e0]; exact ka k hk
set_option maxRecDepth 100000 in
set_option maxHeartbeats 8000000 in
theorem weigh_yes (a b : ByteArray) (w : World) (ha : wok a = true) (hb : wok b = true) (sa : a.size ≤ 12) (sb : b.size ≤ 12) (ht : keyTab w) :
    Calls Tryd.prog 9 #[.string a, .string b] w fun e w' => e = .returned (.int .i64 (weigh a b)) ∧ Below w.heap.size w w' := by
  have ma : a.size ≤ maxLen := by unfold maxLen; omega
  have mb : b.size ≤ maxLen := by unfold maxLen; omega
  have HT : Hid (keyTab w) := ht
  have HKA : Hid (∀ k (h : k < a.size), 0 ≤ (kpB a[k]).1) := word_keys a ha
  have HKB : Hid (∀ k (h : k < b.size), 0 ≤ (kpB b[k]).1) := word_keys b hb
  clear ht
  go_enter Tryd.func9, Tryd.ntmps9
  go_wp2_with (first | (go_at_call 19; refine (wordOk_any _ _ (by assumption)).mono ?_; rintro e w' ⟨rfl, hw⟩; have hw2 := hw.symm; clear hw; subst hw2) | (go_at_call 20; refine (firstRow_any _).mono ?_; rintro e w1 ⟨rfl, hb1⟩; unfold rowC))
  have HB1 : Hid (Below w.heap.size w w1) := hb1
  clear hb1
  go_loopw [17] (fun s wr => ∃ (k : Nat), k ≤ 13 ∧ s = .int .i64 k ∧ wr.heap[w1.heap.size]? = some (.cells (rowC (mulR k)) 38 (0, 0)) ∧ Below w1.heap.size w1 wr) (fun s _ => 13 - (intOf s).toNat)
  case atStart =>
    refine ⟨0, by omega, rfl, ?_, (Below.refl _ _).alloc (Nat.le_refl _) _⟩
    rw [mulR_zero]
    exact heap_alloc_last w1 _
  case round =>
    obtain ⟨k, hk, rfl, h5, hbel⟩ := hrel
    have H5 : Hid (wr.heap[w1.heap.size]? = some (.cells (rowC (mulR k)) 38 (0, 0))) := h5
    have HB : Hid (Below w1.heap.size w1 wr) := hbel
    by_cases hlt : k < 13
    · have c5 := (row_cells h5 k hlt)
      have hm : mulR k k = (k : Int) := by unfold mulR; rw [if_neg (by omega)]
      rw [hm] at c5
      have f5 := Go.Joins.unfrozen_of_block h5 k
      clear h5 hbel hm
      go_wp2
      go_roundw
      case rel =>
        refine ⟨k + 1, by omega, by go_num, ?_, HB.out.setCell (Nat.le_refl _) _⟩
        rw [Go.Joins.block_setCell H5.out, show (k : Int) * 4 = 4 * (k : Int) by omega, rowC_set _ _ _ hlt, mulR_set]
      case measure => simp [intOf]; omega
    · obtain ⟨m, hm⟩ : ∃ m, m = k := ⟨_, rfl⟩
      subst hm
      have hm13 : ¬ (m : Int) < 13 := by omega
      clear h5 hbel hlt hk
      rename World => wm
      go_wp2
      go_loopw [28] (fun s wr => ∃ (k : Nat) (g : Nat → Int), k ≤ a.size ∧ s = .int .i64 k ∧ wr.heap[w1.heap.size]? = some (.cells (rowC g) 38 (0, 0)) ∧ (∀ j, j ≤ b.size → g j = Wc kc (lt a) (lt b) k j) ∧ Below w1.heap.size w1 wr) (fun s _ => a.size - (intOf s).toNat)
      case atStart =>
        refine ⟨0, mulR m, Nat.zero_le _, rfl, H5.out, fun j hj => ?_, HB.out⟩
        rw [Wc_zero]; unfold mulR; rw [if_pos (by omega)]
      case round =>
        obtain ⟨k, g, hk, rfl, h5, hg, hbel⟩ := hrel
        have HG : Hid (∀ j, j ≤ b.size → g j = Wc kc (lt a) (lt b) k j) := hg
        have HBK : Hid (Below w1.heap.size w1 wr) := hbel
        have HTK : Hid (keyTab wr) := HT.out.below (HB1.out.trans (hbel.mono HB1.out.size))
        by_cases hlt : k < a.size
        · have c5 := row_cells h5
          have fg := row_fold g
          have hsz13 := rowC_size
          have s5 := storeRow w1.heap.size g
          have l1 : (k : Int) + 1 ≤ (a.size : Int) := by omega
          have hk1 : IntKind.i64.wrap ((k : Int) + 1) = (k : Int) + 1 := IntWalk.i64_in _ (by omega)
          have l2 : (k : Int) ≤ (k : Int) + 1 := by omega
          have l3 : (0 : Int) ≤ (k : Int) := by omega
          have l4 : (k : Int) < (a.size : Int) := by omega
          have hsz5 : w1.heap.size < wr.heap.size := (Array.getElem?_eq_some_iff.1 h5).1
          clear hg hbel
          go_wp2
          refine wp_region_any (by kernel_rfl) ?_
          change wpAny _ _ _ _ _ _ _ (World.drew _)
          refine wpAny_takeD4 (i := 1) (d := 32) (v := .string a) rfl (by kernel_rfl) (by kernel_rfl) (by kernel_rfl) (fun _ _ _ h => h) (Or.inl ⟨by rfl, by intro w; go_simp⟩) rfl ?_
          simp only [Act.put, List.setIfInBounds_toArray, List.set_cons_zero, List.set_cons_succ]
          refine wpAny_takeD4 (i := 2) (d := 33) (v := .int .i64 k) rfl (by kernel_rfl) (by kernel_rfl) (by kernel_rfl) (fun _ _ _ h => h) (Or.inl ⟨by rfl, by intro w; go_simp⟩) rfl ?_
          simp only [Act.put, List.setIfInBounds_toArray, List.set_cons_zero, List.set_cons_succ]
          refine wpAny_takeD4 (i := 3) (d := 34) (v := .int .i64 k) rfl (by kernel_rfl) (by kernel_rfl) (by kernel_rfl) (fun _ _ _ h => h) (Or.inl ⟨by rfl, by intro w; go_simp⟩) rfl ?_
          simp only [Act.put, List.setIfInBounds_toArray, List.set_cons_zero, List.set_cons_succ]
          refine wpAny_takeD4 (i := 6) (d := 37) (v := .string b) rfl (by kernel_rfl) (by kernel_rfl) (by kernel_rfl) (fun _ _ _ h => h) (Or.inl ⟨by rfl, by intro w; go_simp⟩) rfl ?_
          simp only [Act.put, List.setIfInBounds_toArray, List.set_cons_zero, List.set_cons_succ]
          refine wpAny_takeD4 (i := 4) (d := 35) (v := .int .i64 (k + 1)) rfl (by kernel_rfl) (by kernel_rfl) (by kernel_rfl) (fun _ _ _ h => h) (Or.inl ⟨by rfl, by intro w; go_simp⟩) rfl ?_
          simp only [Act.put, List.setIfInBounds_toArray, List.set_cons_zero, List.set_cons_succ]
          refine wpAny_takeD4 (i := 5) (d := 36) (v := .string (a.extract k (k + 1))) rfl (by kernel_rfl) (by kernel_rfl) (by kernel_rfl) (fun _ _ _ h => h) (Or.inl ⟨by rfl, by intro w; go_simp⟩) rfl ?_
          simp only [Act.put, List.setIfInBounds_toArray, List.set_cons_zero, List.set_cons_succ]
          refine wpAny_ready (rs := [0]) (by kernel_rfl) (by simp) ?_
          refine AllReady.cons rfl (fun K hK => ?_) AllReady.nil
          go_simp
          refine hK _ _ ?_
          clear hK K
          refine wpAny_ready (rs := [7]) (by kernel_rfl) (by simp) ?_
          refine AllReady.cons rfl (fun K hK => ?_) AllReady.nil
          go_simp
          refine (weighed_pre g a b k _ hlt sa sb HKA.out HKB.out (HTK.out.drewN 1) HG.out).mono ?_
          rintro e w2 ⟨g2, rfl, hg2, hb2⟩
          have h5' := (hb2.block w1.heap.size (by simp; omega)).trans h5
          have c5' := row_cells h5'
          refine hK _ _ ?_
          clear hK K
          refine wpAny_ready (rs := [8]) (by kernel_rfl) (by simp) ?_
          refine AllReady.cons rfl (fun K hK => ?_) AllReady.nil
          go_simp
          refine hK _ _ ?_
          clear hK K
          refine wpAny_done (by kernel_rfl) ?_ _
          · go_wp2
            go_roundw
            case rel =>
              refine ⟨k + 1, g2, by omega, by go_num, ?_, hg2, ?_⟩
              · exact setRow_heap _ _ _ _ _ _ h5'
              · exact below_setRow (HBK.out.drew.trans ((hb2.mono (by simp; omega) : Below w1.heap.size wr.drew w2))) (Nat.le_refl _) _
            case measure => simp [intOf]; omega
        · have hk' : k = a.size := by omega
          have hgb := hg b.size (Nat.le_refl _)
          have c5 := row_cells h5 b.size (by omega)
          have HF : Hid (weigh a b = g b.size) := by
            show weigh a b = g b.size
            rw [hgb, hk']; rfl
          clear hg hgb h5 hk' hbel
          go_wp2
          go_ret
          rw [HF.out]
          exact ⟨rfl, HB1.out.trans (HBK.out.mono HB1.out.size)⟩
end Go.Proofs.YtbebikodkfmehaaDoor
/-
  What spec.l10Weigh tells: what it costs to make one word of another; the law FnExactWeighFar.
-/
namespace Go.Proofs.YtbebikodkfmehaaDoor
open Go.RowKit
set_option linter.unusedVariables false
/-- Rows of numbers, kept one behind the other. -/
def GRows (F : Nat → Nat → Int) (m B : Nat) (v : Value) (i : Nat) (w : World) : Prop :=
  ∃ vs : List Value, w.ownsRow B 50 1 v i vs ∧ ∀ n, n < i → ∃ u, vs[n]? = some u ∧ w.ownsRow B 3 1 u (m + 1) (ints (F n) (m + 1))
theorem GRows.look {F : Nat → Nat → Int} {m B i : Nat} {g cap : Nat} {w : World} (h : GRows F m B (.slice (some ⟨g, 0, none⟩) i cap) i w) (n : Nat) (hn : n < i) :
    ∃ g' cap', w.cell? ⟨g, n, none⟩ = some (.slice (some ⟨g', 0, none⟩) (m + 1) cap') ∧ ∀ k, k < m + 1 → w.cell? ⟨g', k, none⟩ = some (.int .i64 (F n k)) := by
  obtain ⟨vs, h1, h2⟩ := h
  obtain ⟨u, hu, ho⟩ := h2 n hn
  obtain ⟨g', cap', rfl, _, _⟩ := ho.form (by omega)
  exact ⟨g', cap', ownsRow_cell h1 n _ hu, fun k hk => ownsRow_cell ho k _ (ints_get _ _ _ hk)⟩
theorem GRows.push {F : Nat → Nat → Int} {m B i : Nat} {v v' u : Value} {w w' : World} {vs : List Value} (hv : w.ownsRow B 50 1 v i vs) (h2 : ∀ n, n < i → ∃ u, vs[n]? = some u ∧ w.ownsRow B 3 1 u (m + 1) (ints (F n) (m + 1)))
    (hu : w.ownsRow B 3 1 u (m + 1) (ints (F i) (m + 1))) (hown : w'.ownsRow B 50 1 v' (i + 1) (vs ++ [u])) (hg : w.grownBy w' v.ownBlock) : GRows F m B v' (i + 1) w' := by
  refine ⟨vs ++ [u], hown, fun n hn => ?_⟩
  have hl : vs.length = i := by have := hv.1; omega
  by_cases e : n < i
  · obtain ⟨u', hu', ho⟩ := h2 n e
    refine ⟨u', ?_, ho.kept hg (ownsRow_apart ho hv (by decide))⟩
    rw [List.getElem?_append_left (by omega)]; exact hu'
  · have : n = i := by omega
    subst this
    refine ⟨u, ?_, hu.kept hg (ownsRow_apart hu hv (by decide))⟩
    rw [List.getElem?_append_right (by omega)]; simp [hl]
theorem W_round (x y : Nat → UInt8) (i k : Nat) (C : Int) (h : C = kc (x i) (y k)) : ls (Wc kc x y i k + C) (ls (Wc kc x y i (k + 1) + 4) (Wc kc x y (i + 1) k + 4)) = Wc kc x y (i + 1) (k + 1) := by
  rw [Wc_succ, h]; unfold ls; repeat' split
  all_goals omega
set_option maxRecDepth 100000 in
set_option maxHeartbeats 4000000 in
theorem l10Weigh_any (a b : ByteArray) (w : World) (sa : a.size ≤ 12) (sb : b.size ≤ 12) :
    Calls Tryd.prog 22 #[.string a, .string b] w fun e w' => e = .returned (.int .i64 (weigh a b)) ∧ Below w.heap.size w w' := by
  obtain ⟨i3, hi3, hz3, hs3, hb3⟩ := info_parts Tryd.info_int
  obtain ⟨i4, hi4, hz4, hs4, hb4⟩ := info_parts Tryd.info_ints
  go_enter Tryd.func22, Tryd.ntmps22
  go_wp2
  go_loopw [5, 6] (fun v s wr => ∃ i g cap : Nat, i ≤ a.size + 1 ∧ s = .int .i64 i ∧ v = .slice (some ⟨g, 0, none⟩) i cap ∧ GRows (Wc kc (lt a) (lt b)) b.size w.heap.size v i wr ∧ Below w.heap.size w wr) (fun _ s _ => a.size + 1 - (intOf s).toNat)
  case atStart =>
    refine ⟨0, w.heap.size, 0, Nat.zero_le _, rfl, rfl, ⟨[], ?_, fun n hn => absurd hn (by omega)⟩, (Below.refl _ _).alloc (Nat.le_refl _) _⟩
    exact ⟨rfl, .inr ⟨w.heap.size, 0, #[], rfl, Nat.le_refl _, heap_alloc_last w _, Nat.le_refl _, Nat.zero_le _, rfl, rfl⟩⟩
  case round =>
    rename World => wo
    obtain ⟨i, g, cap, hi, rfl, rfl, hfr, hbel⟩ := hrel
    have HF : Hid (GRows (Wc kc (lt a) (lt b)) b.size w.heap.size (.slice (some ⟨g, 0, none⟩) i cap) i wo) := hfr
    clear hfr
    by_cases hlt : i ≤ a.size
    · go_wp2
      go_loopw [7, 8] (fun u s wr => ∃ k gk ck : Nat, k ≤ b.size + 1 ∧ s = .int .i64 k ∧ u = .slice (some ⟨gk, 0, none⟩) k ck ∧ wr.ownsRow wo.heap.size 3 1 u k (ints (Wc kc (lt a) (lt b) i) k) ∧ Below wo.heap.size wo wr) (fun _ s _ => b.size + 1 - (intOf s).toNat)
      case atStart =>
        refine ⟨0, wo.heap.size, 0, Nat.zero_le _, rfl, rfl, ?_, (Below.refl _ _).alloc (Nat.le_refl _) _⟩
        exact ⟨rfl, .inr ⟨wo.heap.size, 0, #[], rfl, Nat.le_refl _, heap_alloc_last wo _, Nat.le_refl _, Nat.zero_le _, rfl, rfl⟩⟩
      case round =>
        obtain ⟨k, gk, ck, hk, rfl, rfl, hown, hbk⟩ := hrel
        by_cases hkl : k ≤ b.size
        · cases i with
          | zero =>
            have hsz := hbk.size
            go_wp2_with (first | (at_builtin; (refine wpList_append_lies _ rfl _ _ 50 rfl wo.heap.size 3 i3 (.int .i64 0) 1 8 Tryd.underlying50 hi3 hz3 hs3 hb3 rfl (by decide) _ k _ rfl (hown.alloc _) ⟨wr.heap.size, 0, none⟩ 1 1 [.int .i64 (4 * k)] rfl rfl (cell_one_new _ _ _) (one_cell_int _) (by decide) ?c1 ?c2 ?c3 _ rfl ?_)))
            case c1 => unfold maxLen; omega
            case c2 => omega
            case c3 => simp; omega
            intro g' cap' w1 hown' hgrow hat hltg
            have hb1 : Below wo.heap.size wo w1 := below_grown (hbk.alloc hsz _) hgrow (hown.alloc _) (Nat.le_refl _) (by simp; omega)
            rw [← Wc_zero kc (lt a) (lt b) k, ← ints_succ] at hown'
            clear hgrow hat hltg hown
            go_wp2
            go_roundw
            case rel => first | exact ⟨k + 1, g', cap', by omega, by go_num, rfl, hown', hb1⟩ | ((repeat apply Exists.intro); exact ⟨⟨k + 1, g', cap', by omega, by go_num, rfl, hown', hb1⟩, rfl⟩)
            case measure => simp [intOf] <;> omega
          | succ i =>
            cases k with
            | zero =>
              have hsz := hbk.size
              go_wp2_with (first | (at_builtin; (refine wpList_append_lies _ rfl _ _ 50 rfl wo.heap.size 3 i3 (.int .i64 0) 1 8 Tryd.underlying50 hi3 hz3 hs3 hb3 rfl (by decide) _ 0 _ rfl (hown.alloc _) ⟨wr.heap.size, 0, none⟩ 1 1 [.int .i64 (4 * ((i : Int) + 1))] rfl rfl (cell_one_new _ _ _) (one_cell_int _) (by decide) ?c1 ?c2 ?c3 _ rfl ?_)))
              case c1 => unfold maxLen; omega
              case c2 => omega
              case c3 => simp; omega
              intro g' cap' w1 hown' hgrow hat hltg
              have hb1 : Below wo.heap.size wo w1 := below_grown (hbk.alloc hsz _) hgrow (hown.alloc _) (Nat.le_refl _) (by simp; omega)
              have e0 : Wc kc (lt a) (lt b) (i + 1) 0 = 4 * ((i : Int) + 1) := Wc_left _ _ _ _
              rw [← e0, ← ints_succ] at hown'
              clear e0
              clear hgrow hat hltg hown
              go_wp2
              go_roundw
              case rel => first | exact ⟨0 + 1, g', cap', by omega, by go_num, rfl, hown', hb1⟩ | ((repeat apply Exists.intro); exact ⟨⟨0 + 1, g', cap', by omega, by go_num, rfl, hown', hb1⟩, rfl⟩)
              case measure => simp [intOf] <;> omega
            | succ k =>
              have hsz := hbk.size
              obtain ⟨g1, cp1, hc1, hcell1⟩ := HF.out.look i (by omega)
              have hg1 : g < wo.heap.size := by
                obtain ⟨vs, hvs, _⟩ := HF.out
                exact (hvs.lt g rfl).2
              have hg1' : g1 < wo.heap.size := by
                have := hcell1 0 (by omega)
                exact lt_of_cell' this
              have q1 := (hbk.cell (p := ⟨g, i, none⟩) hg1).trans hc1
              have q2 := (hbk.cell (p := ⟨g1, k, none⟩) hg1').trans (hcell1 k (by omega))
              have HQ3 : Hid _ := hcell1 (k + 1) (by omega)
              have HQ1 : Hid _ := hc1
              have HOWN : Hid (wr.ownsRow wo.heap.size 3 1 (.slice (some ⟨gk, 0, none⟩) (k + 1) ck) (k + 1) (ints (Wc kc (lt a) (lt b) (i + 1)) (k + 1))) := hown
              have HBK : Hid (Below wo.heap.size wo wr) := hbk
              have d1 := Wk_bd (lt a) (lt b) i k
              have d2 := Wk_bd (lt a) (lt b) i (k + 1)
              have d3 := Wk_bd (lt a) (lt b) (i + 1) k
              have z1 : IntKind.i64.wrap (i : Int) = (i : Int) := IntWalk.i64_in _ (by omega)
              have z2 : IntKind.i64.wrap (k : Int) = (k : Int) := IntWalk.i64_in _ (by omega)
              have l1 : (i : Int) < (a.size : Int) := by omega
              have l2 : (k : Int) < (b.size : Int) := by omega
              have l3 : (i : Int) < (i : Int) + 1 := by omega
              have l4 : (k : Int) + 1 < (b.size : Int) + 1 := by omega
              have l5 : (k : Int) < (k : Int) + 1 := by omega
              have l5' : (k : Int) < (b.size : Int) + 1 := by omega
              have l6 : (0 : Int) ≤ (k : Int) + 1 := by omega
              have l7 : k < b.size := by omega
              have l8 : i < a.size := by omega
              have hg2 : g < wr.heap.size := by omega
              have hg2' : g1 < wr.heap.size := by omega
              obtain ⟨C, hC⟩ : ∃ C, kfB (kpB (a[i]'(by omega))) (kpB (b[k]'(by omega))) = C := ⟨_, rfl⟩
              have bC : 0 ≤ C ∧ C ≤ 4 := by rw [← hC]; exact kc_bd _ _
              have HCC : Hid (kfB (kpB (a[i]'(by omega))) (kpB (b[k]'(by omega))) = C) := hC
              have HV : Hid (ls (Wc kc (lt a) (lt b) i k + C) (ls (Wc kc (lt a) (lt b) i (k + 1) + 4) (Wc kc (lt a) (lt b) (i + 1) k + 4)) = Wc kc (lt a) (lt b) (i + 1) (k + 1)) := by
                refine W_round (lt a) (lt b) i k C ?_
                rw [lt_get a i (by omega), lt_get b k (by omega)]
                exact hC.symm
              have w1b : IntKind.i64.wrap (Wc kc (lt a) (lt b) i k + C) = Wc kc (lt a) (lt b) i k + C := IntWalk.i64_in _ (by omega)
              have w2b : IntKind.i64.wrap (Wc kc (lt a) (lt b) i (k + 1) + 4) = Wc kc (lt a) (lt b) i (k + 1) + 4 := IntWalk.i64_in _ (by omega)
              have w3b : IntKind.i64.wrap (Wc kc (lt a) (lt b) (i + 1) k + 4) = Wc kc (lt a) (lt b) (i + 1) k + 4 := IntWalk.i64_in _ (by omega)
              clear hcell1 hc1 hown hC hbk
              go_wp2
              go_region_held3 (fun w' => w'.cell? ⟨g, i, none⟩ = some (.slice (some ⟨g1, 0, none⟩) (b.size + 1) cp1) ∧ w'.cell? ⟨g1, k, none⟩ = some (.int .i64 (Wc kc (lt a) (lt b) i k))) (go_keep)
                (first | (go_at_call 17; refine (l10Key_any (a[i]'(by omega)) (b[k]'(by omega)) _).mono ?_; rintro e w3 ⟨he, hb5⟩; rw [HCC.out] at he; subst he; have k0 := (hb5.cell (p := ⟨g, i, none⟩) hg2).trans q1; have k1 := (hb5.cell (p := ⟨g1, k, none⟩) hg2').trans q2; have HB5 : Hid (Below wr.heap.size wr w3) := (Below.refl _ _).drew.trans hb5))
              all_goals
                have q3 := ((HBK.out.trans (HB5.out.mono hsz)).cell (p := ⟨g1, k + 1, none⟩) hg1').trans HQ3.out
                have HOWN3 : Hid (w3.ownsRow wo.heap.size 3 1 (.slice (some ⟨gk, 0, none⟩) (k + 1) ck) (k + 1) (ints (Wc kc (lt a) (lt b) (i + 1)) (k + 1))) := ownsRow_below HOWN.out HB5.out (Nat.le_refl _)
                have q4 := ownsRow_cell HOWN3.out k _ (ints_get _ _ k (by omega))
                have hbk3 : Below wo.heap.size wo w3 := HBK.out.trans (HB5.out.mono hsz)
                have hsz3 := hbk3.size
                clear hb5 q1 q2
                go_wp2
                go_quiet ((go_at_call 27; refine (least_any _ _ _).mono ?_; rintro e w'' ⟨rfl, rfl⟩; exact ⟨rfl, _, rfl⟩))
                go_wp2_with (first | (at_builtin; (refine wpList_append_lies _ rfl _ _ 50 rfl wo.heap.size 3 i3 (.int .i64 0) 1 8 Tryd.underlying50 hi3 hz3 hs3 hb3 rfl (by decide) _ (k + 1) _ rfl (by exact World.ownsRow.alloc HOWN3.out _) ⟨w3.heap.size, 0, none⟩ 1 1 [.int .i64 (ls (Wc kc (lt a) (lt b) i k + C) (ls (Wc kc (lt a) (lt b) i (k + 1) + 4) (Wc kc (lt a) (lt b) (i + 1) k + 4)))] rfl rfl (by exact cell_one_new _ _ _) (one_cell_int _) (by decide) ?c1 ?c2 ?c3 _ rfl ?_)))
                case c1 => unfold maxLen; omega
                case c2 => omega
                case c3 => simp; omega
                intro g' cap' w1 hown' hgrow hat hltg
                have hb1 : Below wo.heap.size wo w1 := by
                  refine below_grown ?_ hgrow (by exact World.ownsRow.alloc HOWN3.out _) (Nat.le_refl _) (by simp; omega)
                  exact (below_drewN hbk3 _).alloc hsz3 _
                rw [HV.out, ← ints_succ] at hown'
                clear hgrow hat hltg
                go_wp2
                go_roundw
                case rel => first | exact ⟨k + 1 + 1, g', cap', by omega, by go_num, rfl, hown', hb1⟩ | ((repeat apply Exists.intro); exact ⟨⟨k + 1 + 1, g', cap', by omega, by go_num, rfl, hown', hb1⟩, rfl⟩)
                case measure => simp [intOf] <;> omega
        · have hk' : k = b.size + 1 := by omega
          subst hk'
          have hsz := hbk.size
          have HOWN : Hid (wr.ownsRow wo.heap.size 3 1 (.slice (some ⟨gk, 0, none⟩) (b.size + 1) ck) (b.size + 1) (ints (Wc kc (lt a) (lt b) i) (b.size + 1))) := hown
          obtain ⟨vs, hvs, hrows⟩ := HF.out
          have hvs' := ownsRow_below hvs hbk (Nat.le_refl _)
          have hrows' : ∀ n, n < i → ∃ u, vs[n]? = some u ∧ wr.ownsRow w.heap.size 3 1 u (b.size + 1) (ints (Wc kc (lt a) (lt b) n) (b.size + 1)) := fun n hn => by
            obtain ⟨u, h1, h2⟩ := hrows n hn
            exact ⟨u, h1, ownsRow_below h2 hbk (Nat.le_refl _)⟩
          have HR : Hid (∀ n, n < i → ∃ u, vs[n]? = some u ∧ wr.ownsRow w.heap.size 3 1 u (b.size + 1) (ints (Wc kc (lt a) (lt b) n) (b.size + 1))) := hrows'
          have HVS : Hid (wr.ownsRow w.heap.size 50 1 (.slice (some ⟨g, 0, none⟩) i cap) i vs) := hvs'
          have hsw := hbel.size
          clear hown hvs hvs' hrows hrows'
          go_wp2_with (first | (at_builtin; (refine wpList_append_lies _ rfl _ _ 49 rfl w.heap.size 50 i4 (.slice none 0 0) 1 24 Tryd.underlying49 hi4 hz4 hs4 hb4 rfl (by decide) _ i _ rfl (by exact World.ownsRow.alloc HVS.out _) ⟨wr.heap.size, 0, none⟩ 1 1 [.slice (some ⟨gk, 0, none⟩) (b.size + 1) ck] rfl rfl (by exact cell_one_new _ _ _) (one_cell_slice _ _ _) (by decide) ?c1 ?c2 ?c3 _ rfl ?_)))
          case c1 => unfold maxLen; omega
          case c2 => omega
          case c3 => simp; omega
          intro g' cap' w1 hown' hgrow hat hltg
          have hfr : GRows (Wc kc (lt a) (lt b)) b.size w.heap.size (.slice (some ⟨g', 0, none⟩) (i + 1) cap') (i + 1) w1 :=
            GRows.push (World.ownsRow.alloc HVS.out _) (fun n hn => by obtain ⟨u, h1, h2⟩ := HR.out n hn; exact ⟨u, h1, h2.alloc _⟩) (ownsRow_wider (World.ownsRow.alloc HOWN.out _) hsw) hown' hgrow
          have hb1 : Below w.heap.size w w1 := below_grown ((hbel.trans (hbk.mono hsw)).alloc (by omega) _) hgrow (World.ownsRow.alloc HVS.out _) (Nat.le_refl _) (by simp; omega)
          clear hgrow hat hltg hown'
          go_wp2
          go_roundw
          case rel => first | exact ⟨i + 1, g', cap', by omega, by go_num, rfl, hfr, hb1⟩ | ((repeat apply Exists.intro); exact ⟨⟨i + 1, g', cap', by omega, by go_num, rfl, hfr, hb1⟩, rfl⟩)
          case measure => simp [intOf] <;> omega
    · have hi' : i = a.size + 1 := by omega
      subst hi'
      obtain ⟨g1, cp1, hc1, hcell1⟩ := HF.out.look a.size (by omega)
      have q2 := hcell1 b.size (by omega)
      have HFAR : Hid (weigh a b = Wc kc (lt a) (lt b) a.size b.size) := Eq.refl (weigh a b)
      clear hcell1
      go_wp2
      go_ret
      rw [HFAR.out]
      exact ⟨rfl, hbel⟩
/-- What it costs to make one word of another; -1 of others. -/
def weighW (a b : ByteArray) : Int := if wok a = true ∧ wok b = true then weigh a b else -1
set_option maxHeartbeats 400000 in
theorem specWeighFar_any (a b : ByteArray) (w : World) (ma : a.size ≤ maxLen) (mb : b.size ≤ maxLen) :
    Calls Tryd.prog 10 #[.string a, .string b] w fun e w' => e = .returned (.int .i64 (weighW a b)) ∧ Below w.heap.size w w' := by
  cases h1 : wok a with
  | false =>
    have HF : Hid (weighW a b = -1) := if_neg (by simp [h1])
    go_enter Tryd.func10, Tryd.ntmps10
    go_wp2_with (go_at_call 16; refine (l1Word_any _ _ (by assumption)).mono ?_; rintro e w' ⟨rfl, rfl⟩)
    go_ret
    rw [HF.out]
    exact ⟨rfl, Below.refl _ _⟩
  | true =>
    cases h2 : wok b with
    | false =>
      have HF : Hid (weighW a b = -1) := if_neg (by simp [h2])
      go_enter Tryd.func10, Tryd.ntmps10
      go_wp2_with (go_at_call 16; refine (l1Word_any _ _ (by assumption)).mono ?_; rintro e w' ⟨rfl, rfl⟩)
      go_ret
      rw [HF.out]
      exact ⟨rfl, Below.refl _ _⟩
    | true =>
      have HF : Hid (weighW a b = weigh a b) := if_pos ⟨h1, h2⟩
      have sa := (wok_size h1).2
      have sb := (wok_size h2).2
      go_enter Tryd.func10, Tryd.ntmps10
      go_wp2_with (first | (go_at_call 16; refine (l1Word_any _ _ (by assumption)).mono ?_; rintro e w' ⟨rfl, rfl⟩) | (go_at_call 22; refine (l10Weigh_any _ _ _ sa sb).mono ?_; rintro e w1 ⟨rfl, hb1⟩))
      go_ret
      rw [HF.out]
      exact ⟨rfl, hb1⟩
set_option maxHeartbeats 400000 in
theorem implWeighFar_any (a b : ByteArray) (w : World) (ma : a.size ≤ maxLen) (mb : b.size ≤ maxLen) (ht : keyTab w) :
    Calls Tryd.prog 9 #[.string a, .string b] w fun e w' => e = .returned (.int .i64 (weighW a b)) ∧ Below w.heap.size w w' := by
  by_cases h : wok a = true ∧ wok b = true
  · unfold weighW
    rw [if_pos h]
    exact weigh_yes a b w h.1 h.2 (wok_size h.1).2 (wok_size h.2).2 ht
  · have HF : Hid (weighW a b = -1) := if_neg h
    clear ht
    cases h1 : wok a with
    | false =>
      go_enter Tryd.func9, Tryd.ntmps9
      go_wp2_with (go_at_call 19; refine (wordOk_any _ _ (by assumption)).mono ?_; rintro e w' ⟨rfl, rfl⟩)
      go_ret
      rw [HF.out]
      exact ⟨rfl, Below.refl _ _⟩
    | true =>
      have h2 : wok b = false := by simpa [h1] using h
      go_enter Tryd.func9, Tryd.ntmps9
      go_wp2_with (go_at_call 19; refine (wordOk_any _ _ (by assumption)).mono ?_; rintro e w' ⟨rfl, rfl⟩)
      go_ret
      rw [HF.out]
      exact ⟨rfl, Below.refl _ _⟩
end Go.Proofs.YtbebikodkfmehaaDoor
