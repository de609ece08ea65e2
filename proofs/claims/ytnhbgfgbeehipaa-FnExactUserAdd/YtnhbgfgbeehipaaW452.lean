/-
  UserAdd of both.
-/
import Derived.Test.YtnhbgfgbeehipaaW451
import Derived.Test.YtnhbgfgbeehipaaW188
namespace Go.Proofs.Ytnhbgfgbeehipaa
open Go.RowKit
set_option linter.unusedVariables false
theorem textRow_at452 {w : World} {v : Value} {ss : List ByteArray} (h : TextRow w v ss) (hl : ss.length ≤ 1000000) (hs : ∀ x ∈ ss, x.size ≤ maxLen) : TextsAt w v ss := by
  obtain ⟨g, cap, hv, hc, hcell, cur, hcur⟩ := h
  refine ⟨_, cap, hv, hc, by unfold maxLen; omega, fun i x hx => hs x (List.mem_of_getElem? hx), fun _ => ⟨g, 0, rfl, lt_of_block hcur, fun i x hx => ?_⟩⟩
  rw [Nat.zero_add]
  exact hcell i x hx
theorem RowOwn.hi452 {t : TypeId} {size lo hi hi' : Nat} {w : World} {v : Value} {n : Nat} {C : (Nat → Value) → Prop} (h : RowOwn t size lo hi w v n C) (hh : hi ≤ hi') : RowOwn t size lo hi' w v n C := by
  obtain ⟨a, cap, rfl, h2, h3, h4⟩ := h
  refine ⟨a, cap, rfl, h2, h3, fun hn => ?_⟩
  obtain ⟨g, m, f, rfl, q1, q2, q3⟩ := h4 hn
  exact ⟨g, m, f, rfl, q1, Nat.lt_of_lt_of_le q2 hh, q3⟩
theorem put_fits {xs : List ByteArray} {s : ByteArray} (h : ∀ x ∈ xs, x.size ≤ maxLen) (hs : s.size ≤ maxLen) : ∀ x ∈ put xs s, x.size ≤ maxLen := fun x hx => by
  rcases (mem_put xs s x).1 hx with rfl | h1
  · exact hs
  · exact h x h1
theorem put_len (s : ByteArray) : ∀ (xs : List ByteArray), (put xs s).length ≤ xs.length + 1
  | [] => by simp [put]
  | x :: xs => by
    have := put_len s xs
    rw [put]
    split
    · simp; omega
    · split <;> simp
set_option maxHeartbeats 1000000 in
theorem searchText_any (w : World) (v : Value) (xs : List ByteArray) (s : ByteArray) (k : Nat) (h : TextsAt w v xs) (hn : xs.length ≤ 1000) (hk : k ≤ xs.length) (h1 : ∀ t x, t < k → xs[t]? = some x → tlt x s = true) (h2 : ∀ t x, k ≤ t → xs[t]? = some x → tlt x s = false) :
    Calls Try.prog 17 #[v, .string s] w fun e w' => e = .returned (.tuple #[.int .i64 k, .bool (decide (xs[k]? = some s))]) ∧ Below w.heap.size w w' := by
  obtain ⟨a, cap, rfl, hc, hm⟩ := h.form
  have HS : Hid (TextsAt w (.slice a xs.length cap) xs) := h
  by_cases h0 : xs = []
  · subst h0
    have hk0 : k = 0 := by simpa using hk
    subst hk0
    have hcon := Any2.slices_BinarySearch_string_empty Try.layBin a cap s w
    change Calls Try.prog 17 _ _ _ at hcon
    refine hcon.mono ?_
    rintro e w' ⟨rfl, rfl⟩
    exact ⟨rfl, Below.refl _ _⟩
  · obtain ⟨b, off, cap1, x, hv, hbl, hx, _, _⟩ := HS.out.at (k := 0) (by cases xs with | nil => exact absurd rfl h0 | cons _ _ => simp)
    cases hv
    clear hx
    have hcell : ∀ j, j < xs.length → w.cell? ⟨b, off + j, none⟩ = some (.string ((xs[j]?).getD s)) := fun j hj => by
      obtain ⟨b', off', cap', y, hv', _, hy, _, hc0⟩ := HS.out.at (k := j) hj
      cases hv'
      rw [hc0, hy]; rfl
    have hcon := Any2.slices_BinarySearch_string Try.layBin b off xs.length cap (fun t => (xs[t]?).getD s) s w (by omega) hcell
    change Calls Try.prog 17 _ _ _ at hcon
    have hbs : Lib.bsGo (fun t => Op.bytesLess ((xs[t]?).getD s).toList s.toList) xs.length 0 xs.length = k := by
      refine Lib.bsGo_spec _ k (fun t ht => ?_) (fun t ht => ?_) _ _ _ (by omega) (by omega) hk
      · have hx : xs[t]? = some xs[t] := List.getElem?_eq_getElem (by omega)
        rw [hx]
        exact h1 t _ ht hx
      · cases hx : xs[t]? with
        | none => exact tlt_irrefl s
        | some x => exact h2 t x ht hx
    rw [hbs] at hcon
    have hd : decide (k < xs.length ∧ (xs[k]?).getD s = s) = decide (xs[k]? = some s) := by
      apply decide_eq_decide.2
      constructor
      · rintro ⟨q1, q2⟩
        rw [List.getElem?_eq_getElem q1] at q2 ⊢
        exact congrArg some q2
      · intro q
        have := (List.getElem?_eq_some_iff.1 q).1
        exact ⟨this, by rw [q]; rfl⟩
    refine hcon.mono ?_
    rintro e w' ⟨rfl, q, rfl⟩
    refine ⟨?_, below_dn415 (Below.refl _ _) q⟩
    show Ending.returned (.tuple #[_, .bool (decide (k < xs.length ∧ (xs[k]?).getD s = s))]) = _
    rw [hd]
set_option maxRecDepth 100000 in
set_option maxHeartbeats 2000000 in
theorem implUserAdd_any (w : World) (v : Value) (xs : List ByteArray) (s : ByteArray) (h : TextsAt w v xs) (hs : s.size ≤ 1048576) :
    Calls Try.prog 8 #[v, .string s] w fun e w' => ∃ v', e = .returned (.tuple #[v', .bool (addB xs s)]) ∧ TextsRow w.heap.size w'.heap.size w' v' (addT xs s) ∧ Below w.heap.size w w' := by
  obtain ⟨a, cap, rfl, hc, hm⟩ := h.form
  have HA : Hid (TextsAt w (.slice a xs.length cap) xs) := h
  have HFT : Hid (∀ x ∈ xs, x.size ≤ maxLen) := fits_of h
  clear h
  unfold maxLen at hm
  cases hown : ownT xs with
  | false =>
    have HD : Hid (addT xs s = []) := if_neg (by rw [hown]; decide)
    have HE : Hid (addB xs s = false) := by show _ = _; unfold addB; rw [hown]; rfl
    go_enter Try.func8, Try.ntmps8
    go_wp2_with fail
    refine (ownOk_any _ _ xs HA.out).mono ?_
    rintro e w1 ⟨rfl, hb1⟩
    rw [hown]
    have HB1 : Hid (Below w.heap.size w w1) := hb1
    clear hb1
    go_wp2
    refine bodyPost_ret (v := .tuple #[.slice none 0 0, .bool false]) (by simp [results, Try.results8, go_sem]) rfl ⟨_, by rw [HE.out], by rw [HD.out]; exact nilRow450 _ _ _ _, HB1.out⟩
  | true =>
    have h10 := ownT_len hown
    obtain ⟨k, hk, h1, h2, h3, h4⟩ := put_split s xs (asc_of (ownT_good hown))
    have HSE : Hid (∀ w0 v0, TextsAt w0 v0 xs → Calls Try.prog 17 #[v0, .string s] w0 fun e w' => e = .returned (.tuple #[.int .i64 k, .bool (decide (xs[k]? = some s))]) ∧ Below w0.heap.size w0 w') := fun w0 v0 h0 => searchText_any w0 v0 xs s k h0 (by omega) hk h1 h2
    by_cases hst : xs[k]? = some s
    · have hp := h3 hst
      have HD : Hid (addT xs s = xs) := by show _ = _; unfold addT; rw [hp, hown]; rfl
      have HE : Hid (addB xs s = true) := by show _ = _; unfold addB; rw [hp, hown]; rfl
      have hdc : decide (xs[k]? = some s) = true := decide_eq_true hst
      clear h1 h2 h3 h4 hp hst
      go_enter Try.func8, Try.ntmps8
      go_wp2_with fail
      refine (ownOk_any _ _ xs HA.out).mono ?_
      rintro e w1 ⟨rfl, hb1⟩
      rw [hown]
      have HB1 : Hid (Below w.heap.size w w1) := hb1
      clear hb1 hown
      go_wp2_with fail
      refine (HSE.out _ _ (HA.out.below HB1.out)).mono ?_
      rintro e w2 ⟨rfl, hb2⟩
      rw [hdc]
      have HB2 : Hid (Below w.heap.size w w2) := HB1.out.trans (hb2.mono HB1.out.size)
      clear hb2
      go_wp2_with fail
      refine (copyOfT_any _ _ xs (HA.out.below HB2.out) (by omega)).mono ?_
      rintro e w3 ⟨v3, rfl, ho3, hb3⟩
      have HB3 : Hid (Below w.heap.size w w3) := HB2.out.trans (hb3.mono HB2.out.size)
      have HR : Hid (TextsRow w.heap.size w3.heap.size w3 v3 xs) := textsRow_of_owns (owns_low450 ho3 HB2.out.size) rfl (fits_at HFT.out)
      obtain ⟨a3, c3, rfl⟩ := owns_form ho3
      clear hb3 ho3
      go_wp2
      refine bodyPost_ret (v := .tuple #[.slice a3 xs.length c3, .bool true]) (by simp [results, Try.results8, go_sem]) rfl ⟨_, by rw [HE.out], by rw [HD.out]; exact HR.out, HB3.out⟩
    · have hp := h4 hst
      have hdc : decide (xs[k]? = some s) = false := decide_eq_false hst
      have HPF : Hid (∀ x ∈ put xs s, x.size ≤ maxLen) := put_fits HFT.out (by unfold maxLen; omega)
      have HPL : Hid ((put xs s).length ≤ xs.length + 1) := put_len s xs
      have HIN : Hid (∀ w0 v0 vb, w0.ownsRow w.heap.size 9 1 v0 xs.length (texts xs) → w0.heap[vb]? = some (.cells #[.string s] 9 (0, 0)) → v0.ownBlock ≠ some vb → w.heap.size ≤ w0.heap.size →
          Calls Try.prog 19 #[v0, .int .i64 k, .slice (some ⟨vb, 0, none⟩) 1 1] w0 fun e w' => ∃ v', e = .returned v' ∧ TextsRow w.heap.size w'.heap.size w' v' (put xs s) ∧ Below w.heap.size w0 w') := fun w0 v0 vb q1 q2 q3 q4 => by
        rw [hp]
        exact insertText_any w0 v0 xs s k vb w.heap.size q1 hk (by omega) q2 q3 q4 (by rw [← hp]; exact HPF.out)
      have HXT : Hid (addT xs s = if ownT (put xs s) = true then put xs s else xs) := by show _ = _; unfold addT; rw [hown, if_pos rfl]
      have HXB : Hid (addB xs s = ownT (put xs s)) := by show _ = _; unfold addB; rw [hown]; rfl
      clear h1 h2 h3 h4 hp hst
      go_enter Try.func8, Try.ntmps8
      go_wp2_with fail
      refine (ownOk_any _ _ xs HA.out).mono ?_
      rintro e w1 ⟨rfl, hb1⟩
      rw [hown]
      have HB1 : Hid (Below w.heap.size w w1) := hb1
      clear hb1 hown
      go_wp2_with fail
      refine (HSE.out _ _ (HA.out.below HB1.out)).mono ?_
      rintro e w2 ⟨rfl, hb2⟩
      rw [hdc]
      have HB2 : Hid (Below w.heap.size w w2) := HB1.out.trans (hb2.mono HB1.out.size)
      clear hb2
      go_wp2_with fail
      refine (copyOfT_any _ _ xs (HA.out.below HB2.out) (by omega)).mono ?_
      rintro e w3 ⟨v3, rfl, ho3, hb3⟩
      have HB3 : Hid (Below w.heap.size w w3) := HB2.out.trans (hb3.mono HB2.out.size)
      have HO3 : Hid ((w3.alloc (.cells #[.string s] 9)).ownsRow w.heap.size 9 1 v3 xs.length (texts xs)) := (owns_low450 ho3 HB2.out.size).alloc _
      have hnb : v3.ownBlock ≠ some w3.heap.size := fun he => by have := (ho3.lt _ he).2; omega
      obtain ⟨a3, c3, rfl⟩ := owns_form ho3
      have HX3 : Hid (Below w.heap.size w (w3.alloc (.cells #[.string s] 9))) := HB3.out.alloc HB3.out.size _
      have hsz3 : w.heap.size ≤ (w3.alloc (.cells #[.string s] 9)).heap.size := HX3.out.size
      clear hb3 ho3
      go_wp2_with fail
      refine (HIN.out _ _ _ HO3.out (heap_alloc_last w3 _) hnb hsz3).mono ?_
      rintro e w4 ⟨v4, rfl, hr4, hb4⟩
      have HR4 : Hid (TextsRow w.heap.size w4.heap.size w4 v4 (put xs s)) := hr4
      have HB4 : Hid (Below w.heap.size w w4) := HX3.out.trans hb4
      obtain ⟨a4, c4, hv4, _, _⟩ := hr4.1.form
      subst hv4
      clear hr4 hb4 hnb hsz3
      cases hpo : ownT (put xs s) with
      | true =>
        have HD : Hid (addT xs s = put xs s) := by show _ = _; rw [HXT.out, hpo, if_pos rfl]
        have HE : Hid (addB xs s = true) := by show _ = _; rw [HXB.out, hpo]
        go_wp2_with fail
        refine (ownOk_any _ _ (put xs s) HR4.out.at).mono ?_
        rintro e w5 ⟨rfl, hb5⟩
        rw [hpo]
        have HB5 : Hid (Below w.heap.size w w5) := HB4.out.trans (hb5.mono HB4.out.size)
        have HR5 : Hid (TextsRow w.heap.size w5.heap.size w5 (.slice a4 (put xs s).length c4) (put xs s)) := ⟨(HR4.out.1.below hb5).hi452 hb5.size, HR4.out.2⟩
        clear hb5
        go_wp2
        refine bodyPost_ret (v := .tuple #[.slice a4 (put xs s).length c4, .bool true]) (by simp [results, Try.results8, go_sem]) rfl ⟨_, by rw [HE.out], by rw [HD.out]; exact HR5.out, HB5.out⟩
      | false =>
        have HD : Hid (addT xs s = xs) := by show _ = _; rw [HXT.out, hpo]; rfl
        have HE : Hid (addB xs s = false) := by show _ = _; rw [HXB.out, hpo]
        go_wp2_with fail
        refine (ownOk_any _ _ (put xs s) HR4.out.at).mono ?_
        rintro e w5 ⟨rfl, hb5⟩
        rw [hpo]
        have HB5 : Hid (Below w.heap.size w w5) := HB4.out.trans (hb5.mono HB4.out.size)
        clear hb5
        go_wp2_with fail
        refine (copyOfT_any _ _ xs (HA.out.below HB5.out) (by omega)).mono ?_
        rintro e w6 ⟨v6, rfl, ho6, hb6⟩
        have HB6 : Hid (Below w.heap.size w w6) := HB5.out.trans (hb6.mono HB5.out.size)
        have HR : Hid (TextsRow w.heap.size w6.heap.size w6 v6 xs) := textsRow_of_owns (owns_low450 ho6 HB5.out.size) rfl (fits_at HFT.out)
        obtain ⟨a6, c6, rfl⟩ := owns_form ho6
        clear hb6 ho6
        go_wp2
        refine bodyPost_ret (v := .tuple #[.slice a6 xs.length c6, .bool false]) (by simp [results, Try.results8, go_sem]) rfl ⟨_, by rw [HE.out], by rw [HD.out]; exact HR.out, HB6.out⟩
theorem run_append_zero452 {P : Program} (w : World) (t ty e : TypeId) (i : TypeInfo) (ht : P.underlying t = some (.slice e)) (hi : P.info? e = some i) (a : Option Addr) (n c : Nat) (a2 : Option Addr) (c2 : Nat) (h : n ≤ c) :
    (Builtin.append_ #[t, t] ty #[.slice a n c, .slice a2 0 c2]).run P w = .ok (.slice a n c) w := by
  cases a <;> cases a2 <;> simp [Builtin.append_, run_underlying ht, sizeOf, typeInfo, hi, Builtin.lenOf, h, Builtin.firstCells, storeCells, loadCells, loadCellsFrom]
theorem wp_append_zero452 {P : Program} (w : World) {o : Oper} {a : Act} {K : Act → World → Prop} {Q : Exit → Act → World → Prop} (s x : Operand) (t : TypeId)
    (ho : o.op = .call { callee := .builtin .append, args := #[s, x], argTypes := #[t, t] })
    (e : TypeId) (i : TypeInfo) (ht : P.underlying t = some (.slice e)) (hi : P.info? e = some i) (b : Option Addr) (n c : Nat) (a2 : Option Addr) (c2 : Nat) (hs : a.eval s = .slice b n c) (hx : a.eval x = .slice a2 0 c2) (hnc : n ≤ c)
    (h : K (a.put o.dst (.slice b n c)) w) : o.wp P a w K Q := by
  have hr := run_append_zero452 (P := P) w t o.type e i ht hi b n c a2 c2 hnc
  unfold Oper.wp execOp
  simp only [ho, resolve, invoke, builtin, Sem.run_bind, Sem.run_pure, Result.andThen_ok, List.map_toArray, List.map_cons, List.map_nil, hs, hx, hr]
  exact h
theorem wpList_append_zero452 {P : Program} (w : World) {ops : Array Oper} {rest : List Oper} {o : Oper} {a : Act} {Q : Exit → Act → World → Prop} (hgd : o.guard = none) (s x : Operand) (t : TypeId)
    (ho : o.op = .call { callee := .builtin .append, args := #[s, x], argTypes := #[t, t] })
    (e : TypeId) (i : TypeInfo) (ht : P.underlying t = some (.slice e)) (hi : P.info? e = some i) (b : Option Addr) (n c : Nat) (a2 : Option Addr) (c2 : Nat) (hs : a.eval s = .slice b n c) (hx : a.eval x = .slice a2 0 c2) (hnc : n ≤ c)
    (h : wpList P ops Q rest (a.put o.dst (.slice b n c)) w) : wpList P ops Q (o :: rest) a w :=
  wpList_plain hgd fun _ hK => wp_append_zero452 w s x t ho e i ht hi b n c a2 c2 hs hx hnc (hK _ _ h)
set_option maxRecDepth 100000 in
set_option maxHeartbeats 2000000 in
theorem specUserAdd_any (w : World) (v : Value) (xs : List ByteArray) (s : ByteArray) (h : TextsAt w v xs) (hs : s.size ≤ 1048576) :
    Calls Try.prog 6 #[v, .string s] w fun e w' => ∃ v', e = .returned (.tuple #[v', .bool (addB xs s)]) ∧ TextsAt w' v' (addT xs s) ∧ Below w.heap.size w w' := by
  obtain ⟨a, cap, rfl, hc, hm⟩ := h.form
  have HA : Hid (TextsAt w (.slice a xs.length cap) xs) := h
  have HFT : Hid (∀ x ∈ xs, x.size ≤ maxLen) := fits_of h
  clear h
  unfold maxLen at hm
  obtain ⟨i3, hi3, hz3, hs3, hb3⟩ := info_parts Try.info_str405
  cases hown : ownT xs with
  | false =>
    have HD : Hid (addT xs s = []) := if_neg (by rw [hown]; decide)
    have HE : Hid (addB xs s = false) := by show _ = _; unfold addB; rw [hown]; rfl
    go_enter Try.func6, Try.ntmps6
    go_wp2_with fail
    refine (l10Own_any _ _ xs HA.out).mono ?_
    rintro e w1 ⟨rfl, hb1⟩
    rw [hown]
    have HB1 : Hid (Below w.heap.size w w1) := hb1
    clear hb1
    go_wp2
    refine bodyPost_ret (v := .tuple #[.slice (some ⟨w1.heap.size, 0, none⟩) 0 0, .bool false]) (by simp [results, Try.results6, go_sem]) rfl ⟨_, by rw [HE.out], by rw [HD.out]; exact (nilRow450 0 0 _ _).at, HB1.out.alloc HB1.out.size _⟩
  | true =>
    have h10 := ownT_len hown
    have HPF : Hid (∀ x ∈ put xs s, x.size ≤ maxLen) := put_fits HFT.out (by unfold maxLen; omega)
    have HPL : Hid ((put xs s).length ≤ xs.length + 1) := put_len s xs
    have HXT : Hid (addT xs s = if ownT (put xs s) = true then put xs s else xs) := by show _ = _; unfold addT; rw [hown, if_pos rfl]
    have HXB : Hid (addB xs s = ownT (put xs s)) := by show _ = _; unfold addB; rw [hown]; rfl
    go_enter Try.func6, Try.ntmps6
    go_wp2_with fail
    refine (l10Own_any _ _ xs HA.out).mono ?_
    rintro e w1 ⟨rfl, hb1⟩
    rw [hown]
    have HB1 : Hid (Below w.heap.size w w1) := hb1
    clear hb1 hown
    have HX1 : Hid (Below w.heap.size w (w1.alloc (.cells #[] 9))) := HB1.out.alloc HB1.out.size _
    have HO1 : Hid ((w1.alloc (.cells #[] 9)).ownsRow w1.heap.size 9 1 (.slice (some ⟨w1.heap.size, 0, none⟩) 0 0) 0 []) := owns_alone (heap_alloc_last w1 _) (Nat.le_refl _)
    have hz1 := HB1.out.size
    by_cases h0 : xs = []
    · have hxl : xs.length = 0 := by rw [h0]; rfl
      have H0 : Hid (xs = []) := h0
      clear h0
      rw [hxl] at HA
      have HT2 : Hid (TextRow (w1.alloc (.cells #[] 9)) (.slice (some ⟨w1.heap.size, 0, none⟩) 0 0) xs) := by rw [H0.out]; exact TextRow.of_owns HO1.out (by simp)
      have HB2 := HX1
      go_wp2_with (first | (go_at_call 15; refine (l1Put_any _ _ xs s HT2.out (by omega)).mono ?_; rintro e w3 ⟨v3, rfl, ht3, hb3⟩) | (at_builtin; refine wpList_append_zero452 _ rfl _ _ 22 rfl 9 i3 Try.underlying22 hi3 _ 0 0 _ _ rfl rfl (Nat.le_refl _) ?_; skip))
      have HT3 : Hid (TextsAt w3 v3 (put xs s)) := textRow_at452 ht3 (by have := HPL.out; omega) HPF.out
      have HB3 : Hid (Below w.heap.size w w3) := HB2.out.trans (hb3.mono HB2.out.size)
      obtain ⟨g3, c3, hv3, _, _⟩ := ht3
      subst hv3
      clear hb3
      cases hpo : ownT (put xs s) with
      | true =>
        have HD : Hid (addT xs s = put xs s) := by show _ = _; rw [HXT.out, hpo, if_pos rfl]
        have HE : Hid (addB xs s = true) := by show _ = _; rw [HXB.out, hpo]
        go_wp2_with fail
        refine (l10Own_any _ _ (put xs s) HT3.out).mono ?_
        rintro e w4 ⟨rfl, hb4⟩
        rw [hpo]
        have HB4 : Hid (Below w.heap.size w w4) := HB3.out.trans (hb4.mono HB3.out.size)
        have HT4 : Hid (TextsAt w4 (.slice (some ⟨g3, 0, none⟩) (put xs s).length c3) (put xs s)) := HT3.out.below hb4
        clear hb4
        go_wp2
        refine bodyPost_ret (v := .tuple #[.slice (some ⟨g3, 0, none⟩) (put xs s).length c3, .bool true]) (by simp [results, Try.results6, go_sem]) rfl ⟨_, by rw [HE.out], by rw [HD.out]; exact HT4.out, HB4.out⟩
      | false =>
        have HD : Hid (addT xs s = xs) := by show _ = _; rw [HXT.out, hpo]; rfl
        have HE : Hid (addB xs s = false) := by show _ = _; rw [HXB.out, hpo]
        go_wp2_with fail
        refine (l10Own_any _ _ (put xs s) HT3.out).mono ?_
        rintro e w4 ⟨rfl, hb4⟩
        rw [hpo]
        have HB4 : Hid (Below w.heap.size w w4) := HB3.out.trans (hb4.mono HB3.out.size)
        clear hb4
        have hz4 := HB4.out.size
        have HX4 : Hid (Below w.heap.size w (w4.alloc (.cells #[] 9))) := HB4.out.alloc HB4.out.size _
        have HO4 : Hid ((w4.alloc (.cells #[] 9)).ownsRow w4.heap.size 9 1 (.slice (some ⟨w4.heap.size, 0, none⟩) 0 0) 0 []) := owns_alone (heap_alloc_last w4 _) (Nat.le_refl _)
        go_wp2_with (at_builtin; refine wpList_append_zero452 _ rfl _ _ 22 rfl 9 i3 Try.underlying22 hi3 _ 0 0 _ _ rfl rfl (Nat.le_refl _) ?_; skip)
        refine bodyPost_ret (v := .tuple #[.slice (some ⟨w4.heap.size, 0, none⟩) 0 0, .bool false]) (by simp [results, Try.results6, go_sem]) rfl ⟨_, by rw [HE.out], by rw [HD.out, H0.out]; exact (nilRow450 0 0 _ _).at, HX4.out⟩
    · obtain ⟨b, off, cap1, x, hv, hbl, hx, _, _⟩ := HA.out.at (k := 0) (by cases hx : xs with | nil => exact absurd hx h0 | cons _ _ => simp)
      cases hv
      clear hx
      go_wp2_with (first | (go_at_call 15; refine (l1Put_any _ _ xs s HT2.out (by omega)).mono ?_; rintro e w3 ⟨v3, rfl, ht3, hb3⟩) | (at_builtin; refine wpList_append_own _ rfl _ _ 22 rfl w1.heap.size 9 i3 (.string ⟨#[]⟩) 1 16 Try.underlying22 hi3 hz3 hs3 hb3 rfl (by decide) _ 0 [] rfl HO1.out ⟨b, off, none⟩ xs.length cap (texts xs) rfl (by simp [texts]) (news_texts (HA.out.below HX1.out)) (texts_one405 xs) (by unfold maxLen; omega) (by omega) (by rw [World.size_alloc]; omega) ?_; intro v1 w2 hown hgrow hnil; have HB2 : Hid (Below w.heap.size w w2) := Below.grown HX1.out hgrow HX1.out.size (fun k' hk' => Nat.le_trans hz1 (HO1.out.lt k' hk').1); have HT2 : Hid (TextRow w2 v1 xs) := TextRow.of_owns (by rw [Nat.zero_add, List.nil_append] at hown; exact hown) (fun h => by have := hnil.1 h; cases this.1); clear hown hgrow hnil))
      have HT3 : Hid (TextsAt w3 v3 (put xs s)) := textRow_at452 ht3 (by have := HPL.out; omega) HPF.out
      have HB3 : Hid (Below w.heap.size w w3) := HB2.out.trans (hb3.mono HB2.out.size)
      obtain ⟨g3, c3, hv3, _, _⟩ := ht3
      subst hv3
      clear hb3
      cases hpo : ownT (put xs s) with
      | true =>
        have HD : Hid (addT xs s = put xs s) := by show _ = _; rw [HXT.out, hpo, if_pos rfl]
        have HE : Hid (addB xs s = true) := by show _ = _; rw [HXB.out, hpo]
        go_wp2_with fail
        refine (l10Own_any _ _ (put xs s) HT3.out).mono ?_
        rintro e w4 ⟨rfl, hb4⟩
        rw [hpo]
        have HB4 : Hid (Below w.heap.size w w4) := HB3.out.trans (hb4.mono HB3.out.size)
        have HT4 : Hid (TextsAt w4 (.slice (some ⟨g3, 0, none⟩) (put xs s).length c3) (put xs s)) := HT3.out.below hb4
        clear hb4
        go_wp2
        refine bodyPost_ret (v := .tuple #[.slice (some ⟨g3, 0, none⟩) (put xs s).length c3, .bool true]) (by simp [results, Try.results6, go_sem]) rfl ⟨_, by rw [HE.out], by rw [HD.out]; exact HT4.out, HB4.out⟩
      | false =>
        have HD : Hid (addT xs s = xs) := by show _ = _; rw [HXT.out, hpo]; rfl
        have HE : Hid (addB xs s = false) := by show _ = _; rw [HXB.out, hpo]
        go_wp2_with fail
        refine (l10Own_any _ _ (put xs s) HT3.out).mono ?_
        rintro e w4 ⟨rfl, hb4⟩
        rw [hpo]
        have HB4 : Hid (Below w.heap.size w w4) := HB3.out.trans (hb4.mono HB3.out.size)
        clear hb4
        have hz4 := HB4.out.size
        have HX4 : Hid (Below w.heap.size w (w4.alloc (.cells #[] 9))) := HB4.out.alloc HB4.out.size _
        have HO4 : Hid ((w4.alloc (.cells #[] 9)).ownsRow w4.heap.size 9 1 (.slice (some ⟨w4.heap.size, 0, none⟩) 0 0) 0 []) := owns_alone (heap_alloc_last w4 _) (Nat.le_refl _)
        go_wp2_with (at_builtin; refine wpList_append_own _ rfl _ _ 22 rfl w4.heap.size 9 i3 (.string ⟨#[]⟩) 1 16 Try.underlying22 hi3 hz3 hs3 hb3 rfl (by decide) _ 0 [] rfl HO4.out ⟨b, off, none⟩ xs.length cap (texts xs) rfl (by simp [texts]) (news_texts (HA.out.below HX4.out)) (texts_one405 xs) (by unfold maxLen; omega) (by omega) (by rw [World.size_alloc]; omega) ?_; intro v5 w5 hown hgrow hnil; have HB5 : Hid (Below w.heap.size w w5) := Below.grown HX4.out hgrow HX4.out.size (fun k' hk' => Nat.le_trans hz4 (HO4.out.lt k' hk').1); have HT5 : Hid (TextsAt w5 v5 xs) := (textsRow_of_owns (by rw [Nat.zero_add, List.nil_append] at hown; exact hown) rfl (fits_at HFT.out)).at; clear hown hgrow hnil)
        refine bodyPost_ret (v := .tuple #[v5, .bool false]) (by simp [results, Try.results6, go_sem]) rfl ⟨_, by rw [HE.out], by rw [HD.out]; exact HT5.out, HB5.out⟩
end Go.Proofs.Ytnhbgfgbeehipaa
