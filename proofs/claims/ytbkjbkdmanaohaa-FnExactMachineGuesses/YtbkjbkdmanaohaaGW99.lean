/-
  impl.Near, and the law.
-/
import Derived.Test.YtbkjbkdmanaohaaW97
import Derived.Test.YtbkjbkdmanaohaaW94
import Derived.Test.YtbkjbkdmanaohaaW95
import Derived.Test.YtbkjbkdmanaohaaGW93
namespace Go.Proofs.Ytbkjbkdmanaohaa
open Go.RowKit Go.Shelf Go.Sort
set_option linter.unusedVariables false
attribute [local go_sem] Oper.semAt_some
/-- What is kept of what came. -/
def keepN (s : ByteArray) (xs : List Short) : List ByteArray := (xs.map Subtype.val).filter fun x => !(x.toList == s.toList) && wok x
theorem keepN_hit (s : ByteArray) (pre : List Short) (x : Short) (h : (x.1.toList == s.toList) = false) (hw : wok x.1 = true) : keepN s (pre ++ [x]) = keepN s pre ++ [x.1] := by
  simp [keepN, hw]
  simpa using h
theorem keepN_same (s : ByteArray) (pre : List Short) (x : Short) (h : (x.1.toList == s.toList) = true) : keepN s (pre ++ [x]) = keepN s pre := by
  simp [keepN]
  intro h1
  exact absurd (by simpa using h) h1
theorem keepN_bad (s : ByteArray) (pre : List Short) (x : Short) (hw : wok x.1 = false) : keepN s (pre ++ [x]) = keepN s pre := by simp [keepN, hw]
theorem keepN_length (s : ByteArray) (pre : List Short) : (keepN s pre).length ≤ pre.length := by
  unfold keepN
  exact Nat.le_trans (List.length_filter_le _ _) (by simp)
/-- As values. -/
def rowN (xs : List ByteArray) : List Value := xs.map Value.string
theorem rowN_enc (xs : List ByteArray) : rowN xs = (xs.map fun x => x.data.toList).map encStr := by
  unfold rowN
  rw [List.map_map]
  rfl
theorem ownsRow_low {W : World} {n₁ lo : Nat} {e : TypeId} {size k : Nat} {v : Value} {xs : List Value} (h : W.ownsRow n₁ e size v k xs) (hle : lo ≤ n₁) : W.ownsRow lo e size v k xs := by
  refine ⟨h.1, ?_⟩
  rcases h.2 with h | ⟨g, cap, cur, hv, hb, r⟩
  · exact .inl h
  · exact .inr ⟨g, cap, cur, hv, Nat.le_trans hle hb, r⟩
/-- A text is put behind a list in a box; another box stays. -/
theorem box_append {W w1 : World} {lo n₁ B : Nat} {t e : TypeId} {size : Nat} {v v' : Value} {k m : Nat} {xs ys : List Value} {tmp : Obj}
    (hv : Boxed W B t v) (hte : t ≠ e) (hrow : W.ownsRow n₁ e size v k xs) (hn₁ : n₁ ≤ W.heap.size) (hlo : lo ≤ B) (hln : lo ≤ n₁)
    (hown' : w1.ownsRow n₁ e size v' m ys) (hgrow : (W.alloc tmp).grownBy w1 v.ownBlock) :
    Boxed w1 B t v ∧ Boxed (w1.setCell ⟨B, 0, none⟩ v') B t v' ∧ (w1.setCell ⟨B, 0, none⟩ v').ownsRow n₁ e size v' m ys ∧ KeepsOthers W (w1.setCell ⟨B, 0, none⟩ v') ∧ Below lo W (w1.setCell ⟨B, 0, none⟩ v') ∧ (∀ Bn tn u, Bn ≠ B → Bn < n₁ → Boxed W Bn tn u → Boxed (w1.setCell ⟨B, 0, none⟩ v') Bn tn u) ∧ W.heap.size ≤ (w1.setCell ⟨B, 0, none⟩ v').heap.size := by
  obtain ⟨h1, h2, h3, h4, h5⟩ := hv.appended hte (ownsRow_low hrow hln) (Nat.le_trans hln hn₁) hlo (ownsRow_low hown' hln) hgrow
  refine ⟨h1, h2, hown'.kept (grownBy_setCell' w1 B v') (.inr (h1.not_row hte hown').symm), h4, h5, fun Bn tn u hne hBn hu => ?_, Nat.le_trans (by simp) (Nat.le_trans hgrow.size (grownBy_setCell' w1 B v').size)⟩
  refine (Boxed.kept (hu.alloc tmp) hgrow ?_).other hne v'
  rcases hrow.2 with ⟨rfl, _⟩ | ⟨g, cap, cur, rfl, hb, _⟩
  · simp [Value.ownBlock]
  · intro e'
    obtain rfl : Bn = g := by simpa [Value.ownBlock] using e'
    omega
theorem stepsL_length (s : ByteArray) : (stepsL s).length ≤ 54 * (s.size + 1) := by
  unfold stepsL
  generalize s.size + 1 = k
  induction k with
  | zero => simp [stepsTo]
  | succ k ih =>
    rw [stepsTo_succ, List.length_append]
    have h1 := atTo_length (s.extract 0 k) (s.extract k s.size) 26
    have h2 : (atE (s.extract 0 k) (s.extract k s.size)).length ≤ 2 := by
      unfold atE
      rw [List.length_append]
      split <;> split <;> simp
    unfold atAll
    rw [List.length_append, h1]
    split <;> omega
theorem infoStr : (Try.prog.info? 9).map (fun i => (i.zero, i.size, i.bytes)) = some (some (.string ⟨#[]⟩), 1, 16) := by kernel_rfl
set_option maxRecDepth 100000 in
set_option maxHeartbeats 2000000 in
theorem near_row (s : ByteArray) (w : World) (hs : s.size ≤ 12) (hw : wok s = true) :
    CallsIn Fence.wide 9 Try.prog 34 #[.string s] w fun e w' => ∃ v ys, e = .returned v ∧ ys.map Subtype.val = stepsL s ∧ w'.ownsRow w.heap.size 9 1 v (onceS ((keepN s ys).map fun x => x.data.toList)).length ((onceS ((keepN s ys).map fun x => x.data.toList)).map encStr) ∧ Below w.heap.size w w' := by
  have hm : s.size ≤ maxLen := by unfold maxLen; omega
  have hdd : ∀ k : Nat, (Fence.wide.depth.isSome = true → 1 ≤ k) := fun k h => by cases h
  obtain ⟨i0, hi, hz0, hz1, hz2⟩ := info_parts infoStr
  refine callsIn_of_wp_marks Try.func34 rfl trivial ?_ rfl
  simp only [Try.ntmps34, List.size_toArray, List.length_cons, List.length_nil, Nat.reduceAdd, Nat.reduceSub, Array.replicate_succ, Array.replicate_zero, List.push_toArray, List.append_toArray, List.nil_append, List.cons_append]
  gi_wp2_with (first
    | (refine ⟨trivial, ?_⟩; refine (callsIn_wide.2 (wordOk_any s _ hm)).mono ?_; rw [hw]; rintro e w' ⟨rfl, rfl⟩)
    | (refine ⟨trivial, ?_⟩; refine (steps_in _ s _).mono ?_; rintro e w' ⟨rfl, rfl⟩))
  have b0 := Boxed.new w 9 (.string s)
  have b1 := Boxed.new (w.alloc (.cells #[.string s] 9)) 29 (.slice none 0 0)
  have b2 := Boxed.new ((w.alloc (.cells #[.string s] 9)).alloc (.cells #[.slice none 0 0] 29)) 9 (.string s)
  rw [World.size_alloc] at b1
  rw [World.size_alloc, World.size_alloc] at b2
  have hB0 : Below w.heap.size w (((w.alloc (.cells #[.string s] 9)).alloc (.cells #[.slice none 0 0] 29)).alloc (.cells #[.string s] 9)) := (((Below.refl _ w).alloc (Nat.le_refl _) _).alloc (by simp) _).alloc (by simp; omega) _
  have hsz0 : (((w.alloc (.cells #[.string s] 9)).alloc (.cells #[.slice none 0 0] 29)).alloc (.cells #[.string s] 9)).heap.size = w.heap.size + 3 := by simp
  have b0' := (b0.alloc (.cells #[.slice none 0 0] 29)).alloc (.cells #[.string s] 9)
  have b1' := b1.alloc (.cells #[.string s] 9)
  refine wpIn_rangeFunc_ownG rfl (by omega) (gf := 66) (lb := #[.pointer (some ⟨w.heap.size + 1 + 1, 0, none⟩)]) rfl trivial (enters_of Try.func66 (by kernel_rfl) rfl)
    (steps_stops 8 w.heap.size (w.heap.size + 1 + 1) s hs _ b2) KeptB.trans (KeptB.put (by rw [hsz0]; omega)) (Below.refl _ _) (fun _ => rfl)
    (fun pre W => ((∃ v, Boxed W (w.heap.size + 1) 29 v ∧ W.ownsRow (w.heap.size + 3) 9 1 v (keepN s pre).length (rowN (keepN s pre)) ∧ True) ∧ Boxed W w.heap.size 9 (.string s)) ∧ Below w.heap.size w W ∧ w.heap.size + 3 ≤ W.heap.size)
    (fun _ _ _ => False)
    (OwnFrom.and (Own.from (fun st X Y row hs' hg hr => ⟨holdsRow_own (w.heap.size + 3) (w.heap.size + 1) 29 9 1 (fun pre => (keepN s pre).length) (fun pre => rowN (keepN s pre)) (fun _ _ => True) st X Y row hs'.1 hg hr, boxed_own w.heap.size 9 (fun _ : List Short => Value.string s) st X Y row hs'.2 hg hr⟩) _) (fun st X Y row hs' hg hr => ⟨ownFrom_below (β := List Short) (Nat.le_refl _) (by rw [hsz0]; omega) st X Y row hs'.1 hg hr, Nat.le_trans hs'.2 hg.size⟩))
    (fun _ _ _ _ _ hs _ _ => hs)
    ⟨⟨⟨_, b1', World.ownsRow_nil _ _ _ _, trivial⟩, b0'⟩, hB0, by rw [hsz0]; omega⟩
    (fun x => { tmps := #[.string s, .pointer (some ⟨w.heap.size, 0, none⟩), .slice none 0 0, .pointer (some ⟨w.heap.size + 1, 0, none⟩), .string x.1, .string s, .bool true, .bool false, .string s, .func (.func 66) #[] #[.pointer (some ⟨w.heap.size + 1 + 1, 0, none⟩)], .string x.1, undef, undef, undef, undef, undef, undef, undef, undef, undef, undef, undef, undef, undef], defers := [] }) ?assign ?body ?done ?stop
  case assign =>
    intro l x W K hK
    gi_wp2
    exact hK
  case body =>
    rintro l pre x W ⟨⟨⟨v, hv, hrow, _⟩, hbs⟩, hB, hsz⟩ hlt
    have hc := hv.cell
    have hcs := hbs.cell
    have hpl := keepN_length s pre
    have hsl := stepsL_length s
    have hx := x.2
    have hxm : x.1.size ≤ maxLen := by unfold maxLen; omega
    have hML : (keepN s pre).length + 1 ≤ maxLen := by unfold maxLen; omega
    cases he : (x.1.toList == s.toList) with
    | true =>
      gi_wp2
      refine ⟨trivial, ?_⟩
      gi_wp2
      exact ⟨KeepsFrom.refl _ _, KeptB.refl _ _ _, ⟨⟨v, hv, by rw [keepN_same s pre x he]; exact hrow, trivial⟩, hbs⟩, hB, hsz⟩
    | false =>
      cases hwx : wok x.1 with
      | false =>
        gi_wp2_with (refine ⟨trivial, ?_⟩; refine (CallsIn.inRound l (callsIn_wide.2 (wordOk_any x.1 _ hxm))).mono ?_; rw [hwx]; rintro e w' ⟨rfl, rfl⟩)
        exact ⟨KeepsFrom.refl _ _, KeptB.refl _ _ _, ⟨⟨v, hv, by rw [keepN_bad s pre x hwx]; exact hrow, trivial⟩, hbs⟩, hB, hsz⟩
      | true =>
        gi_wp2_with (first
          | (refine ⟨trivial, ?_⟩; refine (CallsIn.inRound l (callsIn_wide.2 (wordOk_any x.1 _ hxm))).mono ?_; rw [hwx]; rintro e w' ⟨rfl, rfl⟩)
          | (gi_at_builtin; refine wpListIn_append_own _ rfl _ _ 29 rfl (w.heap.size + 3) 9 i0 (.string ⟨#[]⟩) 1 16 Try.underlying29 hi hz0 hz1 hz2 rfl (by decide) _ _ _ rfl (hrow.alloc _) ⟨_, 0, none⟩ 1 1 [.string x.1] rfl rfl (cell_one_new _ _ _) (by simp [Value.oneCell']) (by omega) (by omega) (by simp; omega) ?_; intro v' w1 hown' hgrow _; obtain ⟨g', cap', rfl⟩ := ownsRow_succ hown'; obtain ⟨hv1, hv2, hr2, hk2, hb2, hx2, hz2⟩ := box_append (lo := w.heap.size) hv (by decide) hrow hsz (by omega) (by omega) hown' hgrow; have hc1 := hv1.cell; have hf1 := hv1.frozen))
        exact ⟨hk2.from _, ⟨hb2, fun u hu => hx2 _ _ u (by omega) (by omega) hu⟩, ⟨⟨_, hv2, by rw [keepN_hit s pre x he hwx, List.length_append, List.length_singleton]; simpa [rowN] using hr2, trivial⟩, hx2 _ _ _ (by omega) (by omega) hbs⟩, hB.trans hb2, Nat.le_trans hsz hz2⟩
  case done =>
    rintro D ys W hD hys ⟨⟨⟨v, hv, hrow, _⟩, hbs⟩, hB, hsz⟩ hK
    have hc := hv.cell
    rw [rowN_enc] at hrow
    have hrow' : W.ownsRow w.heap.size 9 1 v ((keepN s ys).map fun x => x.data.toList).length (((keepN s ys).map fun x => x.data.toList).map encStr) := by
      rw [List.length_map]
      exact ownsRow_low hrow (by omega)
    have hl2 : ((keepN s ys).map fun x => x.data.toList).length ≤ 2000000000 := by
      have h1 := keepN_length s ys
      have h2 := stepsL_length s
      have h3 := congrArg List.length hys
      simp only [List.length_map] at h3 ⊢
      omega
    have hDv : some D ≠ v.ownBlock := by
      rcases hrow'.2 with ⟨rfl, _⟩ | ⟨g, cap, cur, rfl, _, hgb, _⟩
      · simp [Value.ownBlock]
      · intro e'
        obtain rfl : D = g := by simpa [Value.ownBlock] using e'
        rw [hgb] at hK
        cases hK
    gi_wp2_with (refine ⟨trivial, ?_⟩; refine (callsIn_wide.2 (sortedOnce_any w.heap.size _ v _ hrow' hl2 hB.size)).mono ?_; rintro e W2 ⟨v2, rfl, hr2, hb2, hg2⟩)
    have hK2 : W2.heap[D]? = some (.deferred (some [])) := (hg2.block D (Array.getElem?_eq_some_iff.1 hK).1 hDv).trans hK
    refine ⟨by simp, .inl ⟨_, _, rfl, run_takeDeferred hK2, ?_⟩⟩
    exact ⟨_, results_tmp rfl _ _ _, v2, ys, rfl, hys, ownsRow_putObj hr2 _ hK2 rfl, (hB.trans hb2).trans (belowK_b (w := w) (Nat.le_refl _) W2 D _ _ (by rw [hsz0] at hD; omega) hK2 rfl rfl)⟩
  case stop =>
    rintro D c pre W _ _ h _
    exact h.elim
theorem abc_chr (j : Nat) (h : j < 26) : abc.extract j (j + 1) = chr (97 + j) := by
  have H : ∀ j : Fin 26, abc.extract j.1 (j.1 + 1) = chr (97 + j.1) := by decide
  exact H ⟨j, h⟩
end Go.Proofs.Ytbkjbkdmanaohaa
/-
  The law FnExactNear.
-/
namespace Go.Proofs.Ytbkjbkdmanaohaa
open Go.RowKit Go.Shelf Go.Sort
set_option linter.unusedVariables false
theorem rest_size (s : ByteArray) (i : Nat) : (s.extract i s.size).size = s.size - i := by simp
theorem rest_ext (s : ByteArray) (i a b : Nat) (h : i + b ≤ s.size) : (s.extract i s.size).extract a b = s.extract (i + a) (i + b) := by
  rw [ByteArray.extract_extract, Nat.min_eq_left h]
theorem rest_all (s : ByteArray) (i a : Nat) (h : i ≤ s.size) : (s.extract i s.size).extract a (s.extract i s.size).size = s.extract (i + a) s.size := by
  rw [rest_size, ByteArray.extract_extract]
  congr 1
  omega
theorem atC_eq (s : ByteArray) (i j : Nat) (hi : i ≤ s.size) (hj : j < 26) : atC (s.extract 0 i) (s.extract i s.size) j = candsC s i j := by
  unfold atC candsC insT chgT
  rw [rest_all s i 1 hi, rest_size, abc_chr j hj]
  by_cases h : i < s.size
  · rw [if_neg (by omega), if_pos h]
  · rw [if_pos (by omega), if_neg h]
theorem atE_eq (s : ByteArray) (i : Nat) (hi : i ≤ s.size) : atE (s.extract 0 i) (s.extract i s.size) = candsE s i := by
  unfold atE candsE delT swpT
  rw [rest_all s i 1 hi, rest_all s i 2 hi, rest_size]
  by_cases h : i < s.size
  · rw [if_neg (by omega), if_pos h]
    by_cases h2 : i + 1 < s.size
    · rw [if_neg (by omega), if_pos h2, rest_ext s i 1 2 (by omega), rest_ext s i 0 1 (by omega)]
      rfl
    · rw [if_pos (by omega), if_neg h2]
  · rw [if_pos (by omega), if_neg h, if_pos (by omega), if_neg (by omega)]
theorem mem_stepsL (s y : ByteArray) : y ∈ stepsL s ↔ Cand s y (s.size + 1) := by
  unfold stepsL stepsTo Cand atAll atTo
  rw [List.mem_flatMap]
  constructor
  · rintro ⟨i, hi, h⟩
    rw [List.mem_range] at hi
    refine ⟨i, hi, ?_⟩
    rw [List.mem_append, List.mem_flatMap] at h
    rcases h with ⟨j, hj, h⟩ | h
    · rw [List.mem_range] at hj
      rw [atC_eq s i j (by omega) hj] at h
      exact .inl ⟨j, hj, h⟩
    · rw [atE_eq s i (by omega)] at h
      exact .inr h
  · rintro ⟨i, hi, h⟩
    refine ⟨i, List.mem_range.2 hi, ?_⟩
    rw [List.mem_append, List.mem_flatMap]
    rcases h with ⟨j, hj, h⟩ | h
    · exact .inl ⟨j, List.mem_range.2 hj, by rw [atC_eq s i j (by omega) hj]; exact h⟩
    · exact .inr (by rw [atE_eq s i (by omega)]; exact h)
theorem mem_keepN (s y : ByteArray) (ys : List Short) (h : ys.map Subtype.val = stepsL s) : y ∈ near s ↔ y ∈ keepN s ys := by
  unfold near keepN
  rw [nearTo_mem, h, List.mem_filter, mem_stepsL]
  have e : (!(y.toList == s.toList)) = true ↔ y ≠ s := by
    rw [Bool.not_eq_true', beq_eq_false_iff_ne]
    exact ⟨fun h e => h (by rw [e]), fun h e => h (toList_inj' e)⟩
  rw [Bool.and_eq_true, e]
theorem once_near (s : ByteArray) (ys : List Short) (h : ys.map Subtype.val = stepsL s) : (onceS ((keepN s ys).map fun x => x.data.toList)).map (fun x => (⟨x.toArray⟩ : ByteArray)) = near s :=
  once_eq (keepN s ys) (near s) (nearTo_asc s _) fun x => mem_keepN s x ys h
set_option maxHeartbeats 1000000 in
theorem near_any (s : ByteArray) (w : World) (hs : s.size ≤ 1048576) :
    Calls Try.prog 34 #[.string s] w fun e w' => ∃ v, e = .returned v ∧ TextsOwn w.heap.size w' v (nearL s) ∧ Below w.heap.size w w' := by
  have hm : s.size ≤ maxLen := by unfold maxLen; omega
  cases hw : wok s with
  | false =>
    have HL : Hid (nearL s = []) := if_neg (by rw [hw]; simp)
    go_enter Try.func34, Try.ntmps34
    go_wp2_with fail
    refine (wordOk_any s _ hm).mono ?_
    rintro e w' ⟨rfl, rfl⟩
    rw [hw]
    go_wp2
    go_ret
    rw [HL.out]
    exact ⟨_, rfl, ⟨none, 0, rfl, Nat.le_refl _, Nat.zero_le _, fun i x hx => by simp at hx, fun hn => absurd rfl hn⟩, (Below.refl _ _).alloc (Nat.le_refl _) _⟩
  | true =>
    have h12 := wok_le12 hw
    refine (callsIn_wide.1 (near_row s w h12 hw)).mono ?_
    rintro e w' ⟨v, ys, rfl, hys, hr, hb⟩
    have hL : nearL s = near s := if_pos hw
    have h := TextsOwn.of_owns hr (fun x hx => by
      have h1 : (⟨x.toArray⟩ : ByteArray) ∈ near s := by rw [← once_near s ys hys]; exact List.mem_map.2 ⟨x, hx, rfl⟩
      have h2 := wok_le12 ((nearTo_mem s _ _).1 h1).2.2
      have h3 : (⟨x.toArray⟩ : ByteArray).size = x.length := size_toArr x
      unfold maxLen
      omega)
    rw [once_near s ys hys, ← hL] at h
    exact ⟨v, rfl, h, hb⟩
end Go.Proofs.Ytbkjbkdmanaohaa
