/-
  UserAdd of both.
-/
import Derived.Test.YtlmkilfffpdpfaaW451
import Derived.Test.YtlmkilfffpdpfaaW188
import Derived.Test.YtlmkilfffpdpfaaGW460
import Derived.Test.YtlmkilfffpdpfaaGW92
namespace Go.Proofs.Ytlmkilfffpdpfaa
open Go.RowKit
set_option linter.unusedVariables false
theorem textRow_at452 {w : World} {v : Value} {ss : List ByteArray} (h : TextRow w v ss) (hl : ss.length ≤ 1000000) (hs : ∀ x ∈ ss, x.size ≤ maxLen) : TextsAt w v ss := by
  obtain ⟨g, cap, hv, hc, hcell, cur, hcur⟩ := h
  refine ⟨_, cap, hv, hc, by unfold maxLen; omega, fun i x hx => hs x (List.mem_of_getElem? hx), fun _ => ⟨g, 0, rfl, lt_of_block hcur, fun i x hx => ?_⟩⟩
  rw [Nat.zero_add]
  exact hcell i x hx
theorem RowOwn.hi452 {t : TypeId} {size lo hi hi' : Nat} {w : World} {v : Value} {n : Nat} {C : (Nat → Value) → Prop} (h : RowOwn t size lo hi w v n C) (hh : hi ≤ hi') : RowOwn t size lo hi' w v n C := by
  obtain ⟨a, cap, rfl, h2, h3, h4⟩ := h
  refine ⟨a, cap, rfl, h2, h3, fun hn => ?_⟩
  obtain ⟨g, m, f, rfl, q1, q2, q3⟩ := h4 hn
  exact ⟨g, m, f, rfl, q1, Nat.lt_of_lt_of_le q2 hh, q3⟩
theorem put_fits {xs : List ByteArray} {s : ByteArray} (h : ∀ x ∈ xs, x.size ≤ maxLen) (hs : s.size ≤ maxLen) : ∀ x ∈ put xs s, x.size ≤ maxLen := fun x hx => by
  rcases (mem_put xs s x).1 hx with rfl | h1
  · exact hs
  · exact h x h1
theorem put_len (s : ByteArray) : ∀ (xs : List ByteArray), (put xs s).length ≤ xs.length + 1
  | [] => by simp [put]
  | x :: xs => by
    have := put_len s xs
    rw [put]
    split
    · simp; omega
    · split <;> simp
set_option maxHeartbeats 1000000 in
theorem searchText_any (w : World) (v : Value) (xs : List ByteArray) (s : ByteArray) (k : Nat) (h : TextsAt w v xs) (hn : xs.length ≤ 1000) (hk : k ≤ xs.length) (h1 : ∀ t x, t < k → xs[t]? = some x → tlt x s = true) (h2 : ∀ t x, k ≤ t → xs[t]? = some x → tlt x s = false) :
    Calls Try.prog 17 #[v, .string s] w fun e w' => e = .returned (.tuple #[.int .i64 k, .bool (decide (xs[k]? = some s))]) ∧ Below w.heap.size w w' := by
  obtain ⟨a, cap, rfl, hc, hm⟩ := h.form
  have HS : Hid (TextsAt w (.slice a xs.length cap) xs) := h
  by_cases h0 : xs = []
  · subst h0
    have hk0 : k = 0 := by simpa using hk
    subst hk0
    have hcon := Any2.slices_BinarySearch_string_empty Try.layBin a cap s w
    change Calls Try.prog 17 _ _ _ at hcon
    refine hcon.mono ?_
    rintro e w' ⟨rfl, rfl⟩
    exact ⟨rfl, Below.refl _ _⟩
  · obtain ⟨b, off, cap1, x, hv, hbl, hx, _, _⟩ := HS.out.at (k := 0) (by cases xs with | nil => exact absurd rfl h0 | cons _ _ => simp)
    cases hv
    clear hx
    have hcell : ∀ j, j < xs.length → w.cell? ⟨b, off + j, none⟩ = some (.string ((xs[j]?).getD s)) := fun j hj => by
      obtain ⟨b', off', cap', y, hv', _, hy, _, hc0⟩ := HS.out.at (k := j) hj
      cases hv'
      rw [hc0, hy]; rfl
    have hcon := Any2.slices_BinarySearch_string Try.layBin b off xs.length cap (fun t => (xs[t]?).getD s) s w (by omega) hcell
    change Calls Try.prog 17 _ _ _ at hcon
    have hbs : Lib.bsGo (fun t => Op.bytesLess ((xs[t]?).getD s).toList s.toList) xs.length 0 xs.length = k := by
      refine Lib.bsGo_spec _ k (fun t ht => ?_) (fun t ht => ?_) _ _ _ (by omega) (by omega) hk
      · have hx : xs[t]? = some xs[t] := List.getElem?_eq_getElem (by omega)
        rw [hx]
        exact h1 t _ ht hx
      · cases hx : xs[t]? with
        | none => exact tlt_irrefl s
        | some x => exact h2 t x ht hx
    rw [hbs] at hcon
    have hd : decide (k < xs.length ∧ (xs[k]?).getD s = s) = decide (xs[k]? = some s) := by
      apply decide_eq_decide.2
      constructor
      · rintro ⟨q1, q2⟩
        rw [List.getElem?_eq_getElem q1] at q2 ⊢
        exact congrArg some q2
      · intro q
        have := (List.getElem?_eq_some_iff.1 q).1
        exact ⟨this, by rw [q]; rfl⟩
    refine hcon.mono ?_
    rintro e w' ⟨rfl, q, rfl⟩
    refine ⟨?_, below_dn415 (Below.refl _ _) q⟩
    show Ending.returned (.tuple #[_, .bool (decide (k < xs.length ∧ (xs[k]?).getD s = s))]) = _
    rw [hd]
set_option maxRecDepth 100000 in
set_option maxHeartbeats 2000000 in
theorem implUserAdd_any (w : World) (v : Value) (xs : List ByteArray) (s : ByteArray) (h : TextsAt w v xs) (hs : s.size ≤ 1048576) :
    Calls Try.prog 6 #[v, .string s] w fun e w' => ∃ v', e = .returned (.tuple #[v', .bool (addB xs s)]) ∧ TextsRow w.heap.size w'.heap.size w' v' (addT xs s) ∧ Below w.heap.size w w' := by
  obtain ⟨a, cap, rfl, hc, hm⟩ := h.form
  have HA : Hid (TextsAt w (.slice a xs.length cap) xs) := h
  have HFT : Hid (∀ x ∈ xs, x.size ≤ maxLen) := fits_of h
  clear h
  unfold maxLen at hm
  cases hown : ownT xs with
  | false =>
    have HD : Hid (addT xs s = []) := if_neg (by rw [hown]; decide)
    have HE : Hid (addB xs s = false) := by show _ = _; unfold addB; rw [hown]; rfl
    go_enter Try.func6, Try.ntmps6
    go_wp2_with fail
    refine (ownOk_any _ _ xs HA.out).mono ?_
    rintro e w1 ⟨rfl, hb1⟩
    rw [hown]
    have HB1 : Hid (Below w.heap.size w w1) := hb1
    clear hb1
    go_wp2
    refine bodyPost_ret (v := .tuple #[.slice none 0 0, .bool false]) (by simp [results, Try.results6, go_sem]) rfl ⟨_, by rw [HE.out], by rw [HD.out]; exact nilRow450 _ _ _ _, HB1.out⟩
  | true =>
    have h10 := ownT_len hown
    obtain ⟨k, hk, h1, h2, h3, h4⟩ := put_split s xs (asc_of (ownT_good hown))
    have HSE : Hid (∀ w0 v0, TextsAt w0 v0 xs → Calls Try.prog 17 #[v0, .string s] w0 fun e w' => e = .returned (.tuple #[.int .i64 k, .bool (decide (xs[k]? = some s))]) ∧ Below w0.heap.size w0 w') := fun w0 v0 h0 => searchText_any w0 v0 xs s k h0 (by omega) hk h1 h2
    by_cases hst : xs[k]? = some s
    · have hp := h3 hst
      have HD : Hid (addT xs s = xs) := by show _ = _; unfold addT; rw [hp, hown]; rfl
      have HE : Hid (addB xs s = true) := by show _ = _; unfold addB; rw [hp, hown]; rfl
      have hdc : decide (xs[k]? = some s) = true := decide_eq_true hst
      clear h1 h2 h3 h4 hp hst
      go_enter Try.func6, Try.ntmps6
      go_wp2_with fail
      refine (ownOk_any _ _ xs HA.out).mono ?_
      rintro e w1 ⟨rfl, hb1⟩
      rw [hown]
      have HB1 : Hid (Below w.heap.size w w1) := hb1
      clear hb1 hown
      go_wp2_with fail
      refine (HSE.out _ _ (HA.out.below HB1.out)).mono ?_
      rintro e w2 ⟨rfl, hb2⟩
      rw [hdc]
      have HB2 : Hid (Below w.heap.size w w2) := HB1.out.trans (hb2.mono HB1.out.size)
      clear hb2
      go_wp2_with fail
      refine (copyOfT_any _ _ xs (HA.out.below HB2.out) (by omega)).mono ?_
      rintro e w3 ⟨v3, rfl, ho3, hb3⟩
      have HB3 : Hid (Below w.heap.size w w3) := HB2.out.trans (hb3.mono HB2.out.size)
      have HR : Hid (TextsRow w.heap.size w3.heap.size w3 v3 xs) := textsRow_of_owns (owns_low450 ho3 HB2.out.size) rfl (fits_at HFT.out)
      obtain ⟨a3, c3, rfl⟩ := owns_form ho3
      clear hb3 ho3
      go_wp2
      refine bodyPost_ret (v := .tuple #[.slice a3 xs.length c3, .bool true]) (by simp [results, Try.results6, go_sem]) rfl ⟨_, by rw [HE.out], by rw [HD.out]; exact HR.out, HB3.out⟩
    · have hp := h4 hst
      have hdc : decide (xs[k]? = some s) = false := decide_eq_false hst
      have HPF : Hid (∀ x ∈ put xs s, x.size ≤ maxLen) := put_fits HFT.out (by unfold maxLen; omega)
      have HPL : Hid ((put xs s).length ≤ xs.length + 1) := put_len s xs
      have HIN : Hid (∀ w0 v0 vb, w0.ownsRow w.heap.size 9 1 v0 xs.length (texts xs) → w0.heap[vb]? = some (.cells #[.string s] 9 (0, 0)) → v0.ownBlock ≠ some vb → w.heap.size ≤ w0.heap.size →
          Calls Try.prog 19 #[v0, .int .i64 k, .slice (some ⟨vb, 0, none⟩) 1 1] w0 fun e w' => ∃ v', e = .returned v' ∧ TextsRow w.heap.size w'.heap.size w' v' (put xs s) ∧ Below w.heap.size w0 w') := fun w0 v0 vb q1 q2 q3 q4 => by
        rw [hp]
        exact insertText_any w0 v0 xs s k vb w.heap.size q1 hk (by omega) q2 q3 q4 (by rw [← hp]; exact HPF.out)
      have HXT : Hid (addT xs s = if ownT (put xs s) = true then put xs s else xs) := by show _ = _; unfold addT; rw [hown, if_pos rfl]
      have HXB : Hid (addB xs s = ownT (put xs s)) := by show _ = _; unfold addB; rw [hown]; rfl
      clear h1 h2 h3 h4 hp hst
      go_enter Try.func6, Try.ntmps6
      go_wp2_with fail
      refine (ownOk_any _ _ xs HA.out).mono ?_
      rintro e w1 ⟨rfl, hb1⟩
      rw [hown]
      have HB1 : Hid (Below w.heap.size w w1) := hb1
      clear hb1 hown
      go_wp2_with fail
      refine (HSE.out _ _ (HA.out.below HB1.out)).mono ?_
      rintro e w2 ⟨rfl, hb2⟩
      rw [hdc]
      have HB2 : Hid (Below w.heap.size w w2) := HB1.out.trans (hb2.mono HB1.out.size)
      clear hb2
      go_wp2_with fail
      refine (copyOfT_any _ _ xs (HA.out.below HB2.out) (by omega)).mono ?_
      rintro e w3 ⟨v3, rfl, ho3, hb3⟩
      have HB3 : Hid (Below w.heap.size w w3) := HB2.out.trans (hb3.mono HB2.out.size)
      have HO3 : Hid ((w3.alloc (.cells #[.string s] 9)).ownsRow w.heap.size 9 1 v3 xs.length (texts xs)) := (owns_low450 ho3 HB2.out.size).alloc _
      have hnb : v3.ownBlock ≠ some w3.heap.size := fun he => by have := (ho3.lt _ he).2; omega
      obtain ⟨a3, c3, rfl⟩ := owns_form ho3
      have HX3 : Hid (Below w.heap.size w (w3.alloc (.cells #[.string s] 9))) := HB3.out.alloc HB3.out.size _
      have hsz3 : w.heap.size ≤ (w3.alloc (.cells #[.string s] 9)).heap.size := HX3.out.size
      clear hb3 ho3
      go_wp2_with fail
      refine (HIN.out _ _ _ HO3.out (heap_alloc_last w3 _) hnb hsz3).mono ?_
      rintro e w4 ⟨v4, rfl, hr4, hb4⟩
      have HR4 : Hid (TextsRow w.heap.size w4.heap.size w4 v4 (put xs s)) := hr4
      have HB4 : Hid (Below w.heap.size w w4) := HX3.out.trans hb4
      obtain ⟨a4, c4, hv4, _, _⟩ := hr4.1.form
      subst hv4
      clear hr4 hb4 hnb hsz3
      cases hpo : ownT (put xs s) with
      | true =>
        have HD : Hid (addT xs s = put xs s) := by show _ = _; rw [HXT.out, hpo, if_pos rfl]
        have HE : Hid (addB xs s = true) := by show _ = _; rw [HXB.out, hpo]
        go_wp2_with fail
        refine (ownOk_any _ _ (put xs s) HR4.out.at).mono ?_
        rintro e w5 ⟨rfl, hb5⟩
        rw [hpo]
        have HB5 : Hid (Below w.heap.size w w5) := HB4.out.trans (hb5.mono HB4.out.size)
        have HR5 : Hid (TextsRow w.heap.size w5.heap.size w5 (.slice a4 (put xs s).length c4) (put xs s)) := ⟨(HR4.out.1.below hb5).hi452 hb5.size, HR4.out.2⟩
        clear hb5
        go_wp2
        refine bodyPost_ret (v := .tuple #[.slice a4 (put xs s).length c4, .bool true]) (by simp [results, Try.results6, go_sem]) rfl ⟨_, by rw [HE.out], by rw [HD.out]; exact HR5.out, HB5.out⟩
      | false =>
        have HD : Hid (addT xs s = xs) := by show _ = _; rw [HXT.out, hpo]; rfl
        have HE : Hid (addB xs s = false) := by show _ = _; rw [HXB.out, hpo]
        go_wp2_with fail
        refine (ownOk_any _ _ (put xs s) HR4.out.at).mono ?_
        rintro e w5 ⟨rfl, hb5⟩
        rw [hpo]
        have HB5 : Hid (Below w.heap.size w w5) := HB4.out.trans (hb5.mono HB4.out.size)
        clear hb5
        go_wp2_with fail
        refine (copyOfT_any _ _ xs (HA.out.below HB5.out) (by omega)).mono ?_
        rintro e w6 ⟨v6, rfl, ho6, hb6⟩
        have HB6 : Hid (Below w.heap.size w w6) := HB5.out.trans (hb6.mono HB5.out.size)
        have HR : Hid (TextsRow w.heap.size w6.heap.size w6 v6 xs) := textsRow_of_owns (owns_low450 ho6 HB5.out.size) rfl (fits_at HFT.out)
        obtain ⟨a6, c6, rfl⟩ := owns_form ho6
        clear hb6 ho6
        go_wp2
        refine bodyPost_ret (v := .tuple #[.slice a6 xs.length c6, .bool false]) (by simp [results, Try.results6, go_sem]) rfl ⟨_, by rw [HE.out], by rw [HD.out]; exact HR.out, HB6.out⟩
theorem run_append_zero452 {P : Program} (w : World) (t ty e : TypeId) (i : TypeInfo) (ht : P.underlying t = some (.slice e)) (hi : P.info? e = some i) (a : Option Addr) (n c : Nat) (a2 : Option Addr) (c2 : Nat) (h : n ≤ c) :
    (Builtin.append_ #[t, t] ty #[.slice a n c, .slice a2 0 c2]).run P w = .ok (.slice a n c) w := by
  cases a <;> cases a2 <;> simp [Builtin.append_, run_underlying ht, sizeOf, typeInfo, hi, Builtin.lenOf, h, Builtin.firstCells, storeCells, loadCells, loadCellsFrom]
theorem wp_append_zero452 {P : Program} (w : World) {o : Oper} {a : Act} {K : Act → World → Prop} {Q : Exit → Act → World → Prop} (s x : Operand) (t : TypeId)
    (ho : o.op = .call { callee := .builtin .append, args := #[s, x], argTypes := #[t, t] })
    (e : TypeId) (i : TypeInfo) (ht : P.underlying t = some (.slice e)) (hi : P.info? e = some i) (b : Option Addr) (n c : Nat) (a2 : Option Addr) (c2 : Nat) (hs : a.eval s = .slice b n c) (hx : a.eval x = .slice a2 0 c2) (hnc : n ≤ c)
    (h : K (a.put o.dst (.slice b n c)) w) : o.wp P a w K Q := by
  have hr := run_append_zero452 (P := P) w t o.type e i ht hi b n c a2 c2 hnc
  unfold Oper.wp execOp
  simp only [ho, resolve, invoke, builtin, Sem.run_bind, Sem.run_pure, Result.andThen_ok, List.map_toArray, List.map_cons, List.map_nil, hs, hx, hr]
  exact h
theorem wpList_append_zero452 {P : Program} (w : World) {ops : Array Oper} {rest : List Oper} {o : Oper} {a : Act} {Q : Exit → Act → World → Prop} (hgd : o.guard = none) (s x : Operand) (t : TypeId)
    (ho : o.op = .call { callee := .builtin .append, args := #[s, x], argTypes := #[t, t] })
    (e : TypeId) (i : TypeInfo) (ht : P.underlying t = some (.slice e)) (hi : P.info? e = some i) (b : Option Addr) (n c : Nat) (a2 : Option Addr) (c2 : Nat) (hs : a.eval s = .slice b n c) (hx : a.eval x = .slice a2 0 c2) (hnc : n ≤ c)
    (h : wpList P ops Q rest (a.put o.dst (.slice b n c)) w) : wpList P ops Q (o :: rest) a w :=
  wpList_plain hgd fun _ hK => wp_append_zero452 w s x t ho e i ht hi b n c a2 c2 hs hx hnc (hK _ _ h)
set_option maxRecDepth 100000 in
set_option maxHeartbeats 2000000 in
theorem specUserAdd_any (w : World) (v : Value) (xs : List ByteArray) (s : ByteArray) (h : TextsAt w v xs) (hs : s.size ≤ 1048576) :
    Calls Try.prog 7 #[v, .string s] w fun e w' => ∃ v', e = .returned (.tuple #[v', .bool (addB xs s)]) ∧ TextsAt w' v' (addT xs s) ∧ Below w.heap.size w w' := by
  obtain ⟨a, cap, rfl, hc, hm⟩ := h.form
  have HA : Hid (TextsAt w (.slice a xs.length cap) xs) := h
  have HFT : Hid (∀ x ∈ xs, x.size ≤ maxLen) := fits_of h
  clear h
  unfold maxLen at hm
  obtain ⟨i3, hi3, hz3, hs3, hb3⟩ := info_parts Try.info_str405
  cases hown : ownT xs with
  | false =>
    have HD : Hid (addT xs s = []) := if_neg (by rw [hown]; decide)
    have HE : Hid (addB xs s = false) := by show _ = _; unfold addB; rw [hown]; rfl
    go_enter Try.func7, Try.ntmps7
    go_wp2_with fail
    refine (l10Own_any _ _ xs HA.out).mono ?_
    rintro e w1 ⟨rfl, hb1⟩
    rw [hown]
    have HB1 : Hid (Below w.heap.size w w1) := hb1
    clear hb1
    go_wp2
    refine bodyPost_ret (v := .tuple #[.slice (some ⟨w1.heap.size, 0, none⟩) 0 0, .bool false]) (by simp [results, Try.results7, go_sem]) rfl ⟨_, by rw [HE.out], by rw [HD.out]; exact (nilRow450 0 0 _ _).at, HB1.out.alloc HB1.out.size _⟩
  | true =>
    have h10 := ownT_len hown
    have HPF : Hid (∀ x ∈ put xs s, x.size ≤ maxLen) := put_fits HFT.out (by unfold maxLen; omega)
    have HPL : Hid ((put xs s).length ≤ xs.length + 1) := put_len s xs
    have HXT : Hid (addT xs s = if ownT (put xs s) = true then put xs s else xs) := by show _ = _; unfold addT; rw [hown, if_pos rfl]
    have HXB : Hid (addB xs s = ownT (put xs s)) := by show _ = _; unfold addB; rw [hown]; rfl
    go_enter Try.func7, Try.ntmps7
    go_wp2_with fail
    refine (l10Own_any _ _ xs HA.out).mono ?_
    rintro e w1 ⟨rfl, hb1⟩
    rw [hown]
    have HB1 : Hid (Below w.heap.size w w1) := hb1
    clear hb1 hown
    have HX1 : Hid (Below w.heap.size w (w1.alloc (.cells #[] 9))) := HB1.out.alloc HB1.out.size _
    have HO1 : Hid ((w1.alloc (.cells #[] 9)).ownsRow w1.heap.size 9 1 (.slice (some ⟨w1.heap.size, 0, none⟩) 0 0) 0 []) := owns_alone (heap_alloc_last w1 _) (Nat.le_refl _)
    have hz1 := HB1.out.size
    by_cases h0 : xs = []
    · have hxl : xs.length = 0 := by rw [h0]; rfl
      have H0 : Hid (xs = []) := h0
      clear h0
      rw [hxl] at HA
      have HT2 : Hid (TextRow (w1.alloc (.cells #[] 9)) (.slice (some ⟨w1.heap.size, 0, none⟩) 0 0) xs) := by rw [H0.out]; exact TextRow.of_owns HO1.out (by simp)
      have HB2 := HX1
      go_wp2_with (first | (go_at_call 21; refine (l1Put_any _ _ xs s HT2.out (by omega)).mono ?_; rintro e w3 ⟨v3, rfl, ht3, hb3⟩) | (at_builtin; refine wpList_append_zero452 _ rfl _ _ 23 rfl 9 i3 Try.underlying23 hi3 _ 0 0 _ _ rfl rfl (Nat.le_refl _) ?_; skip))
      have HT3 : Hid (TextsAt w3 v3 (put xs s)) := textRow_at452 ht3 (by have := HPL.out; omega) HPF.out
      have HB3 : Hid (Below w.heap.size w w3) := HB2.out.trans (hb3.mono HB2.out.size)
      obtain ⟨g3, c3, hv3, _, _⟩ := ht3
      subst hv3
      clear hb3
      cases hpo : ownT (put xs s) with
      | true =>
        have HD : Hid (addT xs s = put xs s) := by show _ = _; rw [HXT.out, hpo, if_pos rfl]
        have HE : Hid (addB xs s = true) := by show _ = _; rw [HXB.out, hpo]
        go_wp2_with fail
        refine (l10Own_any _ _ (put xs s) HT3.out).mono ?_
        rintro e w4 ⟨rfl, hb4⟩
        rw [hpo]
        have HB4 : Hid (Below w.heap.size w w4) := HB3.out.trans (hb4.mono HB3.out.size)
        have HT4 : Hid (TextsAt w4 (.slice (some ⟨g3, 0, none⟩) (put xs s).length c3) (put xs s)) := HT3.out.below hb4
        clear hb4
        go_wp2
        refine bodyPost_ret (v := .tuple #[.slice (some ⟨g3, 0, none⟩) (put xs s).length c3, .bool true]) (by simp [results, Try.results7, go_sem]) rfl ⟨_, by rw [HE.out], by rw [HD.out]; exact HT4.out, HB4.out⟩
      | false =>
        have HD : Hid (addT xs s = xs) := by show _ = _; rw [HXT.out, hpo]; rfl
        have HE : Hid (addB xs s = false) := by show _ = _; rw [HXB.out, hpo]
        go_wp2_with fail
        refine (l10Own_any _ _ (put xs s) HT3.out).mono ?_
        rintro e w4 ⟨rfl, hb4⟩
        rw [hpo]
        have HB4 : Hid (Below w.heap.size w w4) := HB3.out.trans (hb4.mono HB3.out.size)
        clear hb4
        have hz4 := HB4.out.size
        have HX4 : Hid (Below w.heap.size w (w4.alloc (.cells #[] 9))) := HB4.out.alloc HB4.out.size _
        have HO4 : Hid ((w4.alloc (.cells #[] 9)).ownsRow w4.heap.size 9 1 (.slice (some ⟨w4.heap.size, 0, none⟩) 0 0) 0 []) := owns_alone (heap_alloc_last w4 _) (Nat.le_refl _)
        go_wp2_with (at_builtin; refine wpList_append_zero452 _ rfl _ _ 23 rfl 9 i3 Try.underlying23 hi3 _ 0 0 _ _ rfl rfl (Nat.le_refl _) ?_; skip)
        refine bodyPost_ret (v := .tuple #[.slice (some ⟨w4.heap.size, 0, none⟩) 0 0, .bool false]) (by simp [results, Try.results7, go_sem]) rfl ⟨_, by rw [HE.out], by rw [HD.out, H0.out]; exact (nilRow450 0 0 _ _).at, HX4.out⟩
    · obtain ⟨b, off, cap1, x, hv, hbl, hx, _, _⟩ := HA.out.at (k := 0) (by cases hx : xs with | nil => exact absurd hx h0 | cons _ _ => simp)
      cases hv
      clear hx
      go_wp2_with (first | (go_at_call 21; refine (l1Put_any _ _ xs s HT2.out (by omega)).mono ?_; rintro e w3 ⟨v3, rfl, ht3, hb3⟩) | (at_builtin; refine wpList_append_own _ rfl _ _ 23 rfl w1.heap.size 9 i3 (.string ⟨#[]⟩) 1 16 Try.underlying23 hi3 hz3 hs3 hb3 rfl (by decide) _ 0 [] rfl HO1.out ⟨b, off, none⟩ xs.length cap (texts xs) rfl (by simp [texts]) (news_texts (HA.out.below HX1.out)) (texts_one405 xs) (by unfold maxLen; omega) (by omega) (by rw [World.size_alloc]; omega) ?_; intro v1 w2 hown hgrow hnil; have HB2 : Hid (Below w.heap.size w w2) := Below.grown HX1.out hgrow HX1.out.size (fun k' hk' => Nat.le_trans hz1 (HO1.out.lt k' hk').1); have HT2 : Hid (TextRow w2 v1 xs) := TextRow.of_owns (by rw [Nat.zero_add, List.nil_append] at hown; exact hown) (fun h => by have := hnil.1 h; cases this.1); clear hown hgrow hnil))
      have HT3 : Hid (TextsAt w3 v3 (put xs s)) := textRow_at452 ht3 (by have := HPL.out; omega) HPF.out
      have HB3 : Hid (Below w.heap.size w w3) := HB2.out.trans (hb3.mono HB2.out.size)
      obtain ⟨g3, c3, hv3, _, _⟩ := ht3
      subst hv3
      clear hb3
      cases hpo : ownT (put xs s) with
      | true =>
        have HD : Hid (addT xs s = put xs s) := by show _ = _; rw [HXT.out, hpo, if_pos rfl]
        have HE : Hid (addB xs s = true) := by show _ = _; rw [HXB.out, hpo]
        go_wp2_with fail
        refine (l10Own_any _ _ (put xs s) HT3.out).mono ?_
        rintro e w4 ⟨rfl, hb4⟩
        rw [hpo]
        have HB4 : Hid (Below w.heap.size w w4) := HB3.out.trans (hb4.mono HB3.out.size)
        have HT4 : Hid (TextsAt w4 (.slice (some ⟨g3, 0, none⟩) (put xs s).length c3) (put xs s)) := HT3.out.below hb4
        clear hb4
        go_wp2
        refine bodyPost_ret (v := .tuple #[.slice (some ⟨g3, 0, none⟩) (put xs s).length c3, .bool true]) (by simp [results, Try.results7, go_sem]) rfl ⟨_, by rw [HE.out], by rw [HD.out]; exact HT4.out, HB4.out⟩
      | false =>
        have HD : Hid (addT xs s = xs) := by show _ = _; rw [HXT.out, hpo]; rfl
        have HE : Hid (addB xs s = false) := by show _ = _; rw [HXB.out, hpo]
        go_wp2_with fail
        refine (l10Own_any _ _ (put xs s) HT3.out).mono ?_
        rintro e w4 ⟨rfl, hb4⟩
        rw [hpo]
        have HB4 : Hid (Below w.heap.size w w4) := HB3.out.trans (hb4.mono HB3.out.size)
        clear hb4
        have hz4 := HB4.out.size
        have HX4 : Hid (Below w.heap.size w (w4.alloc (.cells #[] 9))) := HB4.out.alloc HB4.out.size _
        have HO4 : Hid ((w4.alloc (.cells #[] 9)).ownsRow w4.heap.size 9 1 (.slice (some ⟨w4.heap.size, 0, none⟩) 0 0) 0 []) := owns_alone (heap_alloc_last w4 _) (Nat.le_refl _)
        go_wp2_with (at_builtin; refine wpList_append_own _ rfl _ _ 23 rfl w4.heap.size 9 i3 (.string ⟨#[]⟩) 1 16 Try.underlying23 hi3 hz3 hs3 hb3 rfl (by decide) _ 0 [] rfl HO4.out ⟨b, off, none⟩ xs.length cap (texts xs) rfl (by simp [texts]) (news_texts (HA.out.below HX4.out)) (texts_one405 xs) (by unfold maxLen; omega) (by omega) (by rw [World.size_alloc]; omega) ?_; intro v5 w5 hown hgrow hnil; have HB5 : Hid (Below w.heap.size w w5) := Below.grown HX4.out hgrow HX4.out.size (fun k' hk' => Nat.le_trans hz4 (HO4.out.lt k' hk').1); have HT5 : Hid (TextsAt w5 v5 xs) := (textsRow_of_owns (by rw [Nat.zero_add, List.nil_append] at hown; exact hown) rfl (fits_at HFT.out)).at; clear hown hgrow hnil)
        refine bodyPost_ret (v := .tuple #[v5, .bool false]) (by simp [results, Try.results7, go_sem]) rfl ⟨_, by rw [HE.out], by rw [HD.out]; exact HT5.out, HB5.out⟩
end Go.Proofs.Ytlmkilfffpdpfaa
/-
  DrawUserAdd, DrawUserDrop; one's own words: what adding and dropping does.
-/
namespace Go.Proofs.Ytlmkilfffpdpfaa
open Go.RowKit
set_option linter.unusedVariables false
theorem wpAny_takeD461 {P : Program} {md : Region.Mode} {ops : Array Oper} {Q : Exit → Act → World → Prop} {i d : Nat} {oi : Oper} {v : Value} {fuel : Nat} {listed : Array Bool} {a : Act} {w : World} (hi : ops[i]? = some oi)
    (hs : Region.noSelect ops = true) (hf : Region.free md ops listed i = true) (hr : (Region.ready md ops listed).contains i = true)
    (hQ : ∀ c a w, Q (.panic c) (a.put oi.dst v) w → Q (.panic c) a w) (hy : Yields P ops oi v a) (hd : oi.dst = some d)
    (h : wpAny P md ops Q fuel (listed.setIfInBounds i true) (a.put (some d) v) w) : wpAny P md ops Q (fuel + 1) listed a w :=
  wpAny_take hi hs hf hr hQ hy (by rw [hd]; exact h)
/-- Drawn words. -/
def DrawnL (xs : List ByteArray) : Prop := xs.length ≤ 20 ∧ ∀ x ∈ xs, x.size ≤ 20
theorem textsAt_owns461 {w : World} {lo : Nat} {v : Value} {xs : List ByteArray} (h : w.ownsRow lo 9 1 v xs.length (texts xs)) (hd : DrawnL xs) : TextsAt w v xs := (textsRow_of_owns h rfl (short_fits hd.2)).at
theorem wok_of_good {xs : List ByteArray} (h : ListGood xs) : ∀ x ∈ xs, wok x = true := fun x hx => by
  obtain ⟨i, hi, rfl⟩ := List.getElem_of_mem hx
  exact h.2.1 i _ hi (List.getElem?_eq_getElem hi)
theorem good_of {xs : List ByteArray} (hl : xs.length ≤ 300) (hw : ∀ x ∈ xs, wok x = true) (ha : Asc xs) : ListGood xs := by
  refine ⟨hl, fun i s hi hs => hw s (List.mem_of_getElem? hs), fun i a b hi h1 h2 => ?_⟩
  unfold Asc at ha
  rw [List.pairwise_iff_getElem] at ha
  have h3 := ha i (i + 1) (by omega) hi (by omega)
  rw [List.getElem?_eq_getElem (by omega)] at h1 h2
  cases h1; cases h2
  exact h3
theorem ownT_of {xs : List ByteArray} (hl : xs.length ≤ 10) (hw : ∀ x ∈ xs, wok x = true) (ha : Asc xs) : ownT xs = true := by
  unfold ownT
  rw [listT_t (good_of (by omega) hw ha), decide_eq_true hl]; rfl
theorem asc_drop {xs : List ByteArray} (h : Asc xs) (s : ByteArray) : Asc (dropW xs s) := List.Pairwise.filter _ h
theorem mem_drop {xs : List ByteArray} {s x : ByteArray} : x ∈ dropW xs s ↔ x ∈ xs ∧ x ≠ s := by
  unfold dropW
  rw [List.mem_filter]
  simp
theorem drop_not (xs : List ByteArray) (s : ByteArray) : ¬ s ∈ dropW xs s := fun h => (mem_drop.1 h).2 rfl
theorem drop_none {xs : List ByteArray} {s : ByteArray} (h : ¬ s ∈ xs) : dropW xs s = xs := by
  unfold dropW
  rw [List.filter_eq_self]
  intro x hx
  have : x ≠ s := fun e => h (by rw [← e]; exact hx)
  simp [this]
theorem put_drop {xs : List ByteArray} {s : ByteArray} (h : Asc xs) (hs : s ∈ xs) : put (dropW xs s) s = xs := by
  refine asc_unique _ _ (asc_put _ _ (asc_drop h s)) h fun x => ?_
  rw [mem_put, mem_drop]
  constructor
  · rintro (rfl | ⟨h1, _⟩)
    · exact hs
    · exact h1
  · intro hx
    by_cases e : x = s
    · exact .inl e
    · exact .inr ⟨hx, e⟩
theorem put_there {xs : List ByteArray} {s : ByteArray} (h : Asc xs) (hs : s ∈ xs) : put xs s = xs := by
  refine asc_unique _ _ (asc_put _ _ h) h fun x => ?_
  rw [mem_put]
  exact ⟨fun hx => hx.elim (fun e => by rw [e]; exact hs) id, .inr⟩
theorem drop_put {xs : List ByteArray} {s : ByteArray} (h : Asc xs) (hs : ¬ s ∈ xs) : dropW (put xs s) s = xs := by
  refine asc_unique _ _ (asc_drop (asc_put _ _ h) s) h fun x => ?_
  rw [mem_drop, mem_put]
  constructor
  · rintro ⟨h1, h2⟩
    exact h1.resolve_left h2
  · intro hx
    exact ⟨.inr hx, fun e => hs (by rw [← e]; exact hx)⟩
theorem put_new_len {xs : List ByteArray} {s : ByteArray} (h : Asc xs) (hs : ¬ s ∈ xs) : (put xs s).length = xs.length + 1 := by
  obtain ⟨k, hk, _, _, _, h4⟩ := put_split s xs h
  rw [h4 (fun e => hs (List.mem_of_getElem? e))]
  simp; omega
theorem ownT_asc {xs : List ByteArray} (h : ownT xs = true) : Asc xs := asc_of (ownT_good h)
/-- What a word that was dropped leaves. -/
theorem drop_all {xs : List ByteArray} {s : ByteArray} (h : dropB xs s = true) : ownT xs = true ∧ dropT xs s = dropW xs s ∧ memT (dropW xs s) s = false ∧ (dropW xs s).length + 1 = xs.length ∧ addT (dropW xs s) s = xs ∧ addB (dropW xs s) s = true := by
  unfold dropB at h
  simp only [Bool.and_eq_true, decide_eq_true_eq] at h
  obtain ⟨ho, hl⟩ := h
  have ha := ownT_asc ho
  have hs : s ∈ xs := by
    by_cases e : s ∈ xs
    · exact e
    · rw [drop_none e] at hl; omega
  have hp := put_drop ha hs
  have h10 := ownT_len ho
  have hdl := dropW_len xs s
  have ho2 : ownT (dropW xs s) = true := ownT_of (by omega) (fun x hx => wok_of_good (ownT_good ho) x (mem_drop.1 hx).1) (asc_drop ha s)
  refine ⟨ho, if_pos ho, ?_, ?_, ?_, ?_⟩
  · exact memT_false (drop_not xs s)
  · have := put_new_len (asc_drop ha s) (drop_not xs s)
    rw [hp] at this
    exact this.symm
  · unfold addT; rw [ho2, hp, ho]; rfl
  · unfold addB; rw [ho2, hp, ho]; rfl
/-- What a word that was added leaves. -/
theorem add_all {xs : List ByteArray} {s : ByteArray} (h : addB xs s = true) : addT xs s = put xs s ∧ (∀ x ∈ xs, x ∈ put xs s) ∧ s ∈ put xs s ∧ dropT (put xs s) s = dropW (put xs s) s ∧ dropB (put xs s) s = true ∧ ¬ s ∈ dropW (put xs s) s ∧ addT (put xs s) s = put xs s ∧ addB (put xs s) s = true ∧ (¬ s ∈ xs → dropW (put xs s) s = xs) := by
  unfold addB at h
  simp only [Bool.and_eq_true] at h
  obtain ⟨h1, h2⟩ := h
  have ha := ownT_asc h1
  have hm : s ∈ put xs s := (mem_put xs s s).2 (.inl rfl)
  have hpp := put_there (ownT_asc h2) hm
  refine ⟨?_, fun x hx => (mem_put xs s x).2 (.inr hx), hm, if_pos h2, ?_, drop_not _ _, ?_, ?_, fun hn => drop_put ha hn⟩
  · unfold addT; rw [h1, if_pos rfl, if_pos h2]
  · unfold dropB
    have hp := put_drop (ownT_asc h2) hm
    have hl := put_new_len (asc_drop (ownT_asc h2) s) (drop_not (put xs s) s)
    rw [hp] at hl
    rw [h2, decide_eq_true (by omega)]; rfl
  · unfold addT; rw [h2, if_pos rfl, hpp, if_pos h2]
  · unfold addB; rw [hpp, h2]; rfl
theorem dropT_fits {xs : List ByteArray} {s : ByteArray} (h : DrawnL xs) : DrawnL (dropT xs s) := by
  unfold dropT
  split
  · exact ⟨Nat.le_trans (dropW_len xs s) h.1, fun x hx => h.2 x (mem_drop.1 hx).1⟩
  · exact ⟨Nat.zero_le _, fun x hx => by simp at hx⟩
set_option maxHeartbeats 1000000 in
theorem drawUserAdd_any (w : World) (a : Option Addr) (len cap : Nat) (zs : List Int) (h : IsRow .u8 w a len cap zs) :
    Calls Try.prog 5 #[.slice a len cap] w fun e w' => ∃ (v : Value) (xs : List ByteArray) (s : ByteArray), e = .returned (.tuple #[v, .string s]) ∧ TextsAt w' v xs ∧ DrawnL xs ∧ s.size ≤ 20 ∧ Below w.heap.size w w' := by
  have HI : Hid (IsRow .u8 w a len cap zs) := h
  clear h
  go_enter Try.func5, Try.ntmps5
  go_wp2_with fail
  refine (open_any w a len cap zs HI.out).mono ?_
  rintro e w1 ⟨rfl, hr1, hb1⟩
  have HR1 : Hid (RdAt w1 w.heap.size 0) := hr1
  have HB1 : Hid (Below w.heap.size w w1) := hb1
  clear hr1 hb1
  go_wp2_with fail
  refine (l13Own_any w1 w.heap.size 0 HR1.out (by omega)).mono ?_
  rintro e w2 ⟨v, xs, rfl, ho, hl, hf, ⟨q, hr2, hq⟩, hk2⟩
  have HO2 : Hid (w2.ownsRow w1.heap.size 9 1 v xs.length (texts xs)) := ho
  have HD : Hid (DrawnL xs) := ⟨hl, hf⟩
  have HR2 : Hid (RdAt w2 w.heap.size q) := hr2
  have HB2 : Hid (Below w.heap.size w w2) := hk2.below HB1.out (Nat.le_refl _)
  obtain ⟨a1, c1, rfl⟩ := owns_form ho
  have hlt : w.heap.size < w1.heap.size := HR1.out.lt
  clear ho hl hf hr2 hk2
  go_wp2_with fail
  refine (l13AnyWord_any w2 w.heap.size q HR2.out (by omega)).mono ?_
  rintro e w3 ⟨s, rfl, hs, -, hk3⟩
  have HT3 : Hid (TextsAt w3 (.slice a1 xs.length c1) xs) := textsAt_owns461 (owns_keptS HO2.out hk3 hlt) HD.out
  have HB3 : Hid (Below w.heap.size w w3) := hk3.below HB2.out (Nat.le_refl _)
  have hs20 : s.size ≤ 20 := hs
  clear hk3 hs
  go_wp2
  exact bodyPost_ret (v := .tuple #[.slice a1 xs.length c1, .string s]) (by simp [results, Try.results5, go_sem]) rfl ⟨_, xs, s, rfl, HT3.out, HD.out, hs20, HB3.out⟩
set_option maxHeartbeats 1000000 in
theorem drawUserDrop_any (w : World) (a : Option Addr) (len cap : Nat) (zs : List Int) (h : IsRow .u8 w a len cap zs) :
    Calls Try.prog 11 #[.slice a len cap] w fun e w' => ∃ (v : Value) (xs : List ByteArray) (s : ByteArray), e = .returned (.tuple #[v, .string s]) ∧ TextsAt w' v xs ∧ DrawnL xs ∧ s.size ≤ 20 ∧ Below w.heap.size w w' := by
  have HI : Hid (IsRow .u8 w a len cap zs) := h
  clear h
  go_enter Try.func11, Try.ntmps11
  go_wp2_with fail
  refine (open_any w a len cap zs HI.out).mono ?_
  rintro e w1 ⟨rfl, hr1, hb1⟩
  have HR1 : Hid (RdAt w1 w.heap.size 0) := hr1
  have HB1 : Hid (Below w.heap.size w w1) := hb1
  clear hr1 hb1
  go_wp2_with fail
  refine (l13Own_any w1 w.heap.size 0 HR1.out (by omega)).mono ?_
  rintro e w2 ⟨v, xs, rfl, ho, hl, hf, ⟨q, hr2, hq⟩, hk2⟩
  have HO2 : Hid (w2.ownsRow w1.heap.size 9 1 v xs.length (texts xs)) := ho
  have HD : Hid (DrawnL xs) := ⟨hl, hf⟩
  have HR2 : Hid (RdAt w2 w.heap.size q) := hr2
  have HB2 : Hid (Below w.heap.size w w2) := hk2.below HB1.out (Nat.le_refl _)
  obtain ⟨a1, c1, rfl⟩ := owns_form ho
  have hlt : w.heap.size < w1.heap.size := HR1.out.lt
  have hl20 : xs.length ≤ 20 := hl
  clear ho hl hf hr2 hk2
  by_cases h0 : 0 < xs.length
  · have h0i : (0 : Int) < xs.length := by omega
    go_wp2_with fail
    refine (pick_any w2 w.heap.size q 2 HR2.out (by omega) (by omega)).mono ?_
    rintro e w3 ⟨v3, rfl, -, -, hr3, hk3⟩
    have HR3 : Hid (RdAt w3 w.heap.size (q + 1)) := hr3
    have HO3 : Hid (w3.ownsRow w1.heap.size 9 1 (.slice a1 xs.length c1) xs.length (texts xs)) := owns_keptS HO2.out hk3 hlt
    have HB3 : Hid (Below w.heap.size w w3) := hk3.below HB2.out (Nat.le_refl _)
    clear hr3 hk3
    obtain ⟨b, off, cp0, x0, hv0, _⟩ := (textsAt_owns461 HO3.out HD.out).at (k := 0) h0
    cases hv0
    cases h3 : (v3 == 0) with
    | true =>
      go_wp2_with fail
      refine wp_region_any (by kernel_rfl) ?_
      change wpAny _ _ _ _ _ _ _ (World.drew _)
      refine wpAny_takeD461 (i := 0) (d := 18) (v := .slice (some ⟨b, off, none⟩) xs.length c1) rfl (by kernel_rfl) (by kernel_rfl) (by kernel_rfl) (fun _ _ _ h => h) (Or.inl ⟨by rfl, by intro w; go_simp⟩) rfl ?_
      simp only [Act.put, List.setIfInBounds_toArray, List.set_cons_zero, List.set_cons_succ]
      refine wpAny_takeD461 (i := 1) (d := 19) (v := .slice (some ⟨b, off, none⟩) xs.length c1) rfl (by kernel_rfl) (by kernel_rfl) (by kernel_rfl) (fun _ _ _ h => h) (Or.inl ⟨by rfl, by intro w; go_simp⟩) rfl ?_
      simp only [Act.put, List.setIfInBounds_toArray, List.set_cons_zero, List.set_cons_succ]
      refine wpAny_takeD461 (i := 2) (d := 20) (v := .pointer (some ⟨w.heap.size, 0, none⟩)) rfl (by kernel_rfl) (by kernel_rfl) (by kernel_rfl) (fun _ _ _ h => h) (Or.inl ⟨by rfl, by intro w; go_simp⟩) rfl ?_
      simp only [Act.put, List.setIfInBounds_toArray, List.set_cons_zero, List.set_cons_succ]
      refine wpAny_takeD461 (i := 3) (d := 21) (v := .slice (some ⟨b, off, none⟩) xs.length c1) rfl (by kernel_rfl) (by kernel_rfl) (by kernel_rfl) (fun _ _ _ h => h) (Or.inl ⟨by rfl, by intro w; go_simp⟩) rfl ?_
      simp only [Act.put, List.setIfInBounds_toArray, List.set_cons_zero, List.set_cons_succ]
      refine wpAny_takeD461 (i := 4) (d := 22) (v := .int .i64 xs.length) rfl (by kernel_rfl) (by kernel_rfl) (by kernel_rfl) (fun _ _ _ h => h) (Or.inl ⟨by rfl, by intro w; go_simp⟩) rfl ?_
      simp only [Act.put, List.setIfInBounds_toArray, List.set_cons_zero, List.set_cons_succ]
      refine wpAny_ready (rs := [5]) (by kernel_rfl) (by simp) ?_
      refine AllReady.cons rfl (fun K hK => ?_) AllReady.nil
      go_simp
      refine (pick_any _ w.heap.size (q + 1) xs.length (HR3.out.drewN 1) (by omega) (by omega)).mono ?_
      rintro e w4 ⟨v4, rfl, g0, g1, hr4, hk4⟩
      have hk4' : Kept w.heap.size w3 w4 := ((Kept.refl _ _).drewN 1).trans hk4
      have HT4 : Hid (TextsAt w4 (.slice (some ⟨b, off, none⟩) xs.length c1) xs) := textsAt_owns461 (owns_keptS HO3.out hk4' hlt) HD.out
      have HB4 : Hid (Below w.heap.size w w4) := hk4'.below HB3.out (Nat.le_refl _)
      obtain ⟨k, rfl⟩ : ∃ k : Nat, v4 = (k : Int) := ⟨v4.toNat, by omega⟩
      have hk : k < xs.length := Int.ofNat_lt.1 (g1 (by omega))
      have hki : (k : Int) < xs.length := (by omega)
      have hk0 : (0 : Int) ≤ k := (by omega)
      obtain ⟨b2, off2, cp, x, hv, hbl, hx, hxf, c0⟩ := HT4.out.at hk
      cases hv
      have hx20 : x.size ≤ 20 := HD.out.2 x (List.mem_of_getElem? hx)
      clear hr4 hk4 hk4' g0 g1 hx hxf
      refine hK _ _ ?_
      clear hK K
      refine wpAny_takeD461 (i := 8) (d := 2) (v := .slice (some ⟨b, off, none⟩) xs.length c1) rfl (by kernel_rfl) (by kernel_rfl) (by kernel_rfl) (fun _ _ _ h => h) (Or.inl ⟨by rfl, by intro w; go_simp⟩) rfl ?_
      simp only [Act.put, List.setIfInBounds_toArray, List.set_cons_zero, List.set_cons_succ]
      refine wpAny_takeD461 (i := 6) (d := 24) (v := .pointer (some ⟨b, off + k, none⟩)) rfl (by kernel_rfl) (by kernel_rfl) (by kernel_rfl) (fun _ _ _ h => h) (Or.inl ⟨by rfl, by intro w; go_simp⟩) rfl ?_
      simp only [Act.put, List.setIfInBounds_toArray, List.set_cons_zero, List.set_cons_succ]
      refine wpAny_ready (rs := [7]) (by kernel_rfl) (by simp) ?_
      refine AllReady.cons rfl (fun K hK => ?_) AllReady.nil
      go_simp
      refine hK _ _ ?_
      clear hK K
      refine wpAny_takeD461 (i := 9) (d := 3) (v := .string x) rfl (by kernel_rfl) (by kernel_rfl) (by kernel_rfl) (fun _ _ _ h => h) (Or.inl ⟨by rfl, by intro w; go_simp⟩) rfl ?_
      simp only [Act.put, List.setIfInBounds_toArray, List.set_cons_zero, List.set_cons_succ]
      refine wpAny_done (by kernel_rfl) ?_ _
      go_wp2
      exact bodyPost_ret (v := .tuple #[.slice (some ⟨b, off, none⟩) xs.length c1, .string x]) (by simp [results, Try.results11, go_sem]) rfl ⟨_, xs, x, rfl, HT4.out, HD.out, hx20, by first | exact HB4.out | exact HB4.out.drew⟩
    | false =>
      go_wp2_with fail
      refine (l13AnyWord_any w3 w.heap.size (q + 1) HR3.out (by omega)).mono ?_
      rintro e w4 ⟨s, rfl, hs, -, hk4⟩
      have HT4 : Hid (TextsAt w4 (.slice (some ⟨b, off, none⟩) xs.length c1) xs) := textsAt_owns461 (owns_keptS HO3.out hk4 hlt) HD.out
      have HB4 : Hid (Below w.heap.size w w4) := hk4.below HB3.out (Nat.le_refl _)
      have hs20 : s.size ≤ 20 := hs
      clear hk4 hs
      go_wp2
      exact bodyPost_ret (v := .tuple #[.slice (some ⟨b, off, none⟩) xs.length c1, .string s]) (by simp [results, Try.results11, go_sem]) rfl ⟨_, xs, s, rfl, HT4.out, HD.out, hs20, HB4.out⟩
  · have h0i : ¬ (0 : Int) < xs.length := by omega
    go_wp2_with fail
    refine (l13AnyWord_any w2 w.heap.size q HR2.out (by omega)).mono ?_
    rintro e w4 ⟨s, rfl, hs, -, hk4⟩
    have HT4 : Hid (TextsAt w4 (.slice a1 xs.length c1) xs) := textsAt_owns461 (owns_keptS HO2.out hk4 hlt) HD.out
    have HB4 : Hid (Below w.heap.size w w4) := hk4.below HB2.out (Nat.le_refl _)
    have hs20 : s.size ≤ 20 := hs
    clear hk4 hs
    go_wp2
    exact bodyPost_ret (v := .tuple #[.slice a1 xs.length c1, .string s]) (by simp [results, Try.results11, go_sem]) rfl ⟨_, xs, s, rfl, HT4.out, HD.out, hs20, HB4.out⟩
end Go.Proofs.Ytlmkilfffpdpfaa
/-
  The law FnUser.
-/
namespace Go.Proofs.Ytlmkilfffpdpfaa
open Go.RowKit
set_option linter.unusedVariables false
theorem put_drawn {xs : List ByteArray} {s : ByteArray} (h : DrawnL xs) (hs : s.size ≤ 20) : (put xs s).length ≤ 21 ∧ ∀ x ∈ put xs s, x.size ≤ 20 :=
  ⟨Nat.le_trans (put_len s xs) (by have := h.1; omega), fun x hx => ((mem_put xs s x).1 hx).elim (fun e => by rw [e]; exact hs) (fun hx => h.2 x hx)⟩
theorem addT_len463 {xs : List ByteArray} {s : ByteArray} (h : DrawnL xs) : (addT xs s).length ≤ 21 := by
  have h1 := put_len s xs
  have h2 := h.1
  unfold addT
  split
  · split <;> omega
  · exact Nat.zero_le _
set_option maxRecDepth 100000 in
set_option maxHeartbeats 4000000 in
theorem fnUser_walk (a : Option Addr) (len cap : Nat) (zs : List Int) (w : World) (h : IsRow .u8 w a len cap zs) :
    Calls Try.prog 3 #[.slice a len cap] w fun e w' => e = .returned (.bool true) ∧ Below w.heap.size w w' := by
  have HI : Hid (IsRow .u8 w a len cap zs) := h
  clear h
  by_cases hbig : (1048576 : Int) < (len : Int)
  · go_enter Try.func3, Try.ntmps3
    go_wp2
    go_ret
    exact ⟨rfl, Below.refl _ _⟩
  go_enter Try.func3, Try.ntmps3
  go_wp2_with fail
  refine (drawUserAdd_any w a len cap zs HI.out).mono ?_
  rintro e w1 ⟨v, xs, s, rfl, ht, hd, hs20, hb1⟩
  obtain ⟨a1, c1, rfl, _, _⟩ := ht.form
  have HT1 : Hid (TextsAt w1 (.slice a1 xs.length c1) xs) := ht
  have HD : Hid (DrawnL xs) := hd
  have HB1 : Hid (Below w.heap.size w w1) := hb1
  have hs1 : s.size ≤ 1048576 := by omega
  have hl20 : xs.length ≤ 20 := hd.1
  clear ht hd hb1
  have HALL : Hid (addB xs s = true → addT xs s = put xs s ∧ (∀ x ∈ xs, x ∈ put xs s) ∧ s ∈ put xs s ∧ dropT (put xs s) s = dropW (put xs s) s ∧ dropB (put xs s) s = true ∧ ¬ s ∈ dropW (put xs s) s ∧ addT (put xs s) s = put xs s ∧ addB (put xs s) s = true ∧ (¬ s ∈ xs → dropW (put xs s) s = xs)) := add_all
  have HDL : Hid ((addT xs s).length ≤ 21) := addT_len463 HD.out
  obtain ⟨D, hDe⟩ : ∃ D, addT xs s = D := ⟨_, rfl⟩
  obtain ⟨B, hBe⟩ : ∃ B, addB xs s = B := ⟨_, rfl⟩
  have HIM : Hid (∀ w0 v0, TextsAt w0 v0 xs → Calls Try.prog 6 #[v0, .string s] w0 fun e w' => ∃ v', e = .returned (.tuple #[v', .bool B]) ∧ TextsAt w' v' D ∧ Below w0.heap.size w0 w') := fun w0 v0 h0 => by
    rw [← hDe, ← hBe]
    refine (implUserAdd_any w0 v0 xs s h0 hs1).mono ?_
    rintro e w' ⟨v', rfl, h1, h2⟩
    exact ⟨v', rfl, h1.at, h2⟩
  have HSP : Hid (∀ w0 v0, TextsAt w0 v0 xs → Calls Try.prog 7 #[v0, .string s] w0 fun e w' => ∃ v', e = .returned (.tuple #[v', .bool B]) ∧ TextsAt w' v' D ∧ Below w0.heap.size w0 w') := fun w0 v0 h0 => by
    rw [← hDe, ← hBe]
    exact specUserAdd_any w0 v0 xs s h0 hs1
  have HX : Hid (B = true → (∀ x ∈ xs, x ∈ D) ∧ s ∈ D ∧ (∃ Y : List ByteArray, ¬ s ∈ Y ∧ Y.length ≤ 21 ∧ (¬ s ∈ xs → Y = xs) ∧ ∀ w0 v0, TextsAt w0 v0 D → Calls Try.prog 9 #[v0, .string s] w0 fun e w' => ∃ v', e = .returned (.tuple #[v', .bool true]) ∧ TextsAt w' v' Y ∧ Below w0.heap.size w0 w') ∧ ∀ w0 v0, TextsAt w0 v0 D → Calls Try.prog 6 #[v0, .string s] w0 fun e w' => ∃ v', e = .returned (.tuple #[v', .bool true]) ∧ TextsAt w' v' D ∧ Below w0.heap.size w0 w') := fun hB => by
    obtain ⟨q1, q2, q3, q4, q5, q6, q7, q8, q9⟩ := HALL.out (hBe.trans hB)
    have hDl := HDL.out
    rw [q1] at hDl
    rw [← hDe, q1]
    refine ⟨q2, q3, ⟨dropW (put xs s) s, q6, Nat.le_trans (dropW_len _ _) hDl, q9, fun w0 v0 h0 => (implUserDrop_any w0 v0 _ s h0).mono ?_⟩, fun w0 v0 h0 => (implUserAdd_any w0 v0 _ s h0 hs1).mono ?_⟩
    · rintro e w' ⟨v', rfl, h1, h2⟩
      rw [q4] at h1
      rw [q5]
      exact ⟨v', rfl, h1.at, h2⟩
    · rintro e w' ⟨v', rfl, h1, h2⟩
      rw [q7] at h1
      rw [q8]
      exact ⟨v', rfl, h1.at, h2⟩
  rw [hDe] at HDL
  have hDl : D.length ≤ 21 := HDL.out
  clear hDe hBe HALL
  go_wp2_with fail
  refine (HIM.out _ _ HT1.out).mono ?_
  rintro e w2 ⟨v2, rfl, ht2, hb2⟩
  obtain ⟨a2, c2, rfl, _, _⟩ := ht2.form
  have HT2 : Hid (TextsAt w2 (.slice a2 D.length c2) D) := ht2
  have HB2 : Hid (Below w.heap.size w w2) := HB1.out.trans (hb2.mono HB1.out.size)
  have HT1b : Hid (TextsAt w2 (.slice a1 xs.length c1) xs) := HT1.out.below hb2
  clear ht2 hb2
  go_wp2_with fail
  refine (HSP.out _ _ HT1b.out).mono ?_
  rintro e w3 ⟨v3, rfl, ht3, hb3⟩
  obtain ⟨a3, c3, rfl, _, _⟩ := ht3.form
  have HT3 : Hid (TextsAt w3 (.slice a3 D.length c3) D) := ht3
  have HB3 : Hid (Below w.heap.size w w3) := HB2.out.trans (hb3.mono HB2.out.size)
  have HT2c : Hid (TextsAt w3 (.slice a2 D.length c2) D) := HT2.out.below hb3
  have HT1c : Hid (TextsAt w3 (.slice a1 xs.length c1) xs) := HT1b.out.below hb3
  clear ht3 hb3
  cases B with
  | false =>
    go_wp2_with fail
    refine (mdTexts_same _ _ _ D HT2c.out HT3.out).mono ?_
    rintro e w4 ⟨rfl, hb4⟩
    have HB4 : Hid (Below w.heap.size w w4) := HB3.out.trans (hb4.mono HB3.out.size)
    have HT3d : Hid (TextsAt w4 (.slice a3 D.length c3) D) := HT3.out.below hb4
    have HT2d : Hid (TextsAt w4 (.slice a2 D.length c2) D) := HT2c.out.below hb4
    clear hb4
    go_wp2_with fail
    refine (mdTexts_same _ _ _ D HT2d.out HT3d.out).mono ?_
    rintro e w5 ⟨rfl, hb5⟩
    have HB5 : Hid (Below w.heap.size w w5) := HB4.out.trans (hb5.mono HB4.out.size)
    clear hb5
    go_wp2
    go_ret
    exact ⟨rfl, HB5.out⟩
  | true =>
    obtain ⟨hin, hsD, ⟨Y, hsY, hYl, hYx, hdrop⟩, hadd⟩ := HX.out rfl
    have HADD : Hid (∀ w0 v0, TextsAt w0 v0 D → Calls Try.prog 6 #[v0, .string s] w0 fun e w' => ∃ v', e = .returned (.tuple #[v', .bool true]) ∧ TextsAt w' v' D ∧ Below w0.heap.size w0 w') := hadd
    have HDRP : Hid (∀ w0 v0, TextsAt w0 v0 D → Calls Try.prog 9 #[v0, .string s] w0 fun e w' => ∃ v', e = .returned (.tuple #[v', .bool true]) ∧ TextsAt w' v' Y ∧ Below w0.heap.size w0 w') := hdrop
    have HIN : Hid (∀ x ∈ xs, memT D x = true) := fun x hx => memT_true (hin x hx)
    have HMD : Hid (memT D s = true) := memT_true hsD
    have HMY : Hid (memT Y s = false) := memT_false hsY
    have HYX : Hid (memT xs s = false → Y = xs) := fun hm => hYx (fun hx => by rw [memT_true hx] at hm; cases hm)
    clear hin hsD hsY hYx hdrop hadd HX
    go_wp2_with fail
    refine (mdTexts_same _ _ _ D HT2c.out HT3.out).mono ?_
    rintro e w4 ⟨rfl, hb4⟩
    have HB4 : Hid (Below w.heap.size w w4) := HB3.out.trans (hb4.mono HB3.out.size)
    have HT2d : Hid (TextsAt w4 (.slice a2 D.length c2) D) := HT2c.out.below hb4
    have HT1d : Hid (TextsAt w4 (.slice a1 xs.length c1) xs) := HT1c.out.below hb4
    clear hb4
    go_wp2_with fail
    refine (HDRP.out _ _ HT2d.out).mono ?_
    rintro e w5 ⟨v5, rfl, ht5, hb5⟩
    obtain ⟨a5, c5, rfl, _, _⟩ := ht5.form
    have HT5 : Hid (TextsAt w5 (.slice a5 Y.length c5) Y) := ht5
    have HB5 : Hid (Below w.heap.size w w5) := HB4.out.trans (hb5.mono HB4.out.size)
    have HT2e : Hid (TextsAt w5 (.slice a2 D.length c2) D) := HT2d.out.below hb5
    have HT1e : Hid (TextsAt w5 (.slice a1 xs.length c1) xs) := HT1d.out.below hb5
    clear ht5 hb5
    go_wp2_with fail
    refine (HADD.out _ _ HT2e.out).mono ?_
    rintro e w6 ⟨v6, rfl, ht6, hb6⟩
    obtain ⟨a6, c6, rfl, _, _⟩ := ht6.form
    have HT6 : Hid (TextsAt w6 (.slice a6 D.length c6) D) := ht6
    have HB6 : Hid (Below w.heap.size w w6) := HB5.out.trans (hb6.mono HB5.out.size)
    have HT5f : Hid (TextsAt w6 (.slice a5 Y.length c5) Y) := HT5.out.below hb6
    have HT2f : Hid (TextsAt w6 (.slice a2 D.length c2) D) := HT2e.out.below hb6
    have HT1f : Hid (TextsAt w6 (.slice a1 xs.length c1) xs) := HT1e.out.below hb6
    clear ht6 hb6
    go_wp2_with fail
    go_loopw [13] (fun i wr => ∃ (k : Nat), k ≤ xs.length ∧ i = .int .i64 k ∧ Below w6.heap.size w6 wr) (fun i _ => xs.length - (intOf i).toNat)
    case atStart => exact ⟨0, Nat.zero_le _, rfl, Below.refl _ _⟩
    case round =>
      obtain ⟨k, hk, rfl, hb⟩ := hrel
      have HBk : Hid (Below w6.heap.size w6 wr) := hb
      have HBr : Hid (Below w.heap.size w wr) := HB6.out.trans (hb.mono HB6.out.size)
      clear hb
      by_cases hlt : k < xs.length
      · have hki : (k : Int) < xs.length := by omega
        obtain ⟨b, off, cp, x, hv, hbl, hx, hxf, c0⟩ := (HT1f.out.below HBk.out).at (k := k) hlt
        cases hv
        have HMX : Hid (memT D x = true) := HIN.out x (List.mem_of_getElem? hx)
        clear hx hxf
        go_wp2_with fail
        refine (mdHas_any _ _ D x (HT2f.out.below HBk.out)).mono ?_
        rintro e w7 ⟨rfl, hb7⟩
        rw [HMX.out]
        have HB7 : Hid (Below w6.heap.size w6 w7) := HBk.out.trans (hb7.mono HBk.out.size)
        clear hb7 c0
        go_wp2
        go_roundw
        case rel => exact ⟨k + 1, by omega, by go_num, HB7.out⟩
        case measure => simp [intOf]; omega
      · have hki : ¬ (k : Int) < xs.length := by omega
        have HT2g : Hid (TextsAt wr (.slice a2 D.length c2) D) := HT2f.out.below HBk.out
        have HT1g : Hid (TextsAt wr (.slice a1 xs.length c1) xs) := HT1f.out.below HBk.out
        have HT5g : Hid (TextsAt wr (.slice a5 Y.length c5) Y) := HT5f.out.below HBk.out
        have HT6g : Hid (TextsAt wr (.slice a6 D.length c6) D) := HT6.out.below HBk.out
        go_wp2_with fail
        refine (mdHas_any _ _ D s HT2g.out).mono ?_
        rintro e w7 ⟨rfl, hb7⟩
        rw [HMD.out]
        have HB7 : Hid (Below w.heap.size w w7) := HBr.out.trans (hb7.mono HBr.out.size)
        have HT2h : Hid (TextsAt w7 (.slice a2 D.length c2) D) := HT2g.out.below hb7
        have HT1h : Hid (TextsAt w7 (.slice a1 xs.length c1) xs) := HT1g.out.below hb7
        have HT5h : Hid (TextsAt w7 (.slice a5 Y.length c5) Y) := HT5g.out.below hb7
        have HT6h : Hid (TextsAt w7 (.slice a6 D.length c6) D) := HT6g.out.below hb7
        clear hb7
        go_wp2_with fail
        refine (mdHas_any _ _ Y s HT5h.out).mono ?_
        rintro e w8 ⟨rfl, hb8⟩
        rw [HMY.out]
        have HB8 : Hid (Below w.heap.size w w8) := HB7.out.trans (hb8.mono HB7.out.size)
        have HT2i : Hid (TextsAt w8 (.slice a2 D.length c2) D) := HT2h.out.below hb8
        have HT1i : Hid (TextsAt w8 (.slice a1 xs.length c1) xs) := HT1h.out.below hb8
        have HT5i : Hid (TextsAt w8 (.slice a5 Y.length c5) Y) := HT5h.out.below hb8
        have HT6i : Hid (TextsAt w8 (.slice a6 D.length c6) D) := HT6h.out.below hb8
        clear hb8
        go_wp2_with fail
        refine (mdTexts_same _ _ _ D HT6i.out HT2i.out).mono ?_
        rintro e w9 ⟨rfl, hb9⟩
        have HB9 : Hid (Below w.heap.size w w9) := HB8.out.trans (hb9.mono HB8.out.size)
        have HT1j : Hid (TextsAt w9 (.slice a1 xs.length c1) xs) := HT1i.out.below hb9
        have HT5j : Hid (TextsAt w9 (.slice a5 Y.length c5) Y) := HT5i.out.below hb9
        clear hb9
        cases hm : memT xs s with
        | true =>
          go_wp2_with fail
          refine (mdHas_any _ _ xs s HT1j.out).mono ?_
          rintro e w10 ⟨rfl, hb10⟩
          rw [hm]
          have HB10 : Hid (Below w.heap.size w w10) := HB9.out.trans (hb10.mono HB9.out.size)
          clear hb10
          go_wp2
          go_ret
          exact ⟨rfl, HB10.out⟩
        | false =>
          have hY := HYX.out hm
          subst hY
          go_wp2_with fail
          refine (mdHas_any _ _ _ s HT1j.out).mono ?_
          rintro e w10 ⟨rfl, hb10⟩
          rw [hm]
          have HB10 : Hid (Below w.heap.size w w10) := HB9.out.trans (hb10.mono HB9.out.size)
          have HT1k := HT1j.out.below hb10
          have HT5k := HT5j.out.below hb10
          clear hb10
          go_wp2_with fail
          refine (mdTexts_same _ _ _ _ HT5k HT1k).mono ?_
          rintro e w11 ⟨rfl, hb11⟩
          have HB11 : Hid (Below w.heap.size w w11) := HB10.out.trans (hb11.mono HB10.out.size)
          clear hb11
          go_wp2
          go_ret
          exact ⟨rfl, HB11.out⟩
end Go.Proofs.Ytlmkilfffpdpfaa
