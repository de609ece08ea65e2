/-
  Copies of rows of texts.
-/
import Derived.Test.YtdjpeickokoclaaDoorGW213
import Derived.Test.YtdjpeickokoclaaDoorGW404
import Derived.Test.YtdjpeickokoclaaDoorW189
import Derived.Test.YtdjpeickokoclaaDoorGW220
import Derived.Test.YtdjpeickokoclaaDoorGW92
import Derived.Deep.RegionHeld3
namespace Go.Proofs.YtdjpeickokoclaaDoor
open Go.RowKit
set_option linter.unusedVariables false
theorem add_plain398 (b o j : Nat) : (⟨b, o, none⟩ : Addr).add j = ⟨b, o + j, none⟩ := by unfold Addr.add; split <;> simp_all
theorem texts_one405 (xs : List ByteArray) : ∀ u ∈ texts xs, u.oneCell' = true := by
  intro u hu
  simp only [texts, List.mem_map] at hu
  obtain ⟨a, _, rfl⟩ := hu
  rfl
theorem news_texts {W : World} {xs : List ByteArray} {b off n cap : Nat} (h : TextsAt W (.slice (some ⟨b, off, none⟩) n cap) xs) : ∀ j u, (texts xs)[j]? = some u → W.cell? ((⟨b, off, none⟩ : Addr).add j) = some u := by
  intro j u hu
  have hj : j < xs.length := by have := (List.getElem?_eq_some_iff.1 hu).1; simpa [texts] using this
  obtain ⟨b', off', cap', x, hv, _, hx, _, h0⟩ := h.at hj
  cases hv
  rw [add_plain398, h0]
  simp [texts, hx] at hu
  rw [hu]
theorem textsRow_of_owns {lo : Nat} {w : World} {v : Value} {xs : List ByteArray} {n : Nat} (h : w.ownsRow lo 9 1 v n (texts xs)) (hn : n = xs.length) (hf : ∀ (i : Nat) (x : ByteArray), xs[i]? = some x → x.size ≤ maxLen) : TextsRow lo w.heap.size w v xs := by
  subst hn
  exact ⟨rowOwn_of_owns h fun f hf j x hj hx => hf j _ (by simp [texts, hx]), hf⟩
theorem Tryd.info_str405 : (Tryd.prog.info? 9).map (fun i => (i.zero, i.size, i.bytes)) = some (some (.string ⟨#[]⟩), 1, 16) := by kernel_rfl
set_option maxHeartbeats 1000000 in
theorem copyOfT_any (w : World) (v : Value) (xs : List ByteArray) (h : TextsAt w v xs) (hn : xs.length ≤ 1000) :
    Calls Tryd.prog 22 #[v] w fun e w' => ∃ v', e = .returned v' ∧ w'.ownsRow w.heap.size 9 1 v' xs.length (texts xs) ∧ Below w.heap.size w w' := by
  obtain ⟨a, cap, rfl, hc, hm⟩ := h.form
  have HS : Hid (TextsAt w (.slice a xs.length cap) xs) := h
  clear h
  unfold maxLen at hm
  obtain ⟨i3, hi3, hz3, hs3, hb3⟩ := info_parts Tryd.info_str405
  by_cases h0 : xs = []
  · subst h0
    have hl : ([] : List ByteArray).length = 0 := rfl
    rw [hl]
    cases a with
    | none =>
      go_enter Tryd.func22, Tryd.ntmps22
      go_wp2
      go_ret
      exact ⟨_, rfl, World.ownsRow_nil _ _ _ _, Below.refl _ _⟩
    | some ad =>
      go_enter Tryd.func22, Tryd.ntmps22
      go_wp2
      go_ret
      exact ⟨_, rfl, World.ownsRow_nil _ _ _ _, Below.refl _ _⟩
  · obtain ⟨b, off, cap1, x, hv, hbl, hx, _, _⟩ := HS.out.at (k := 0) (by cases xs with | nil => exact absurd rfl h0 | cons _ _ => simp)
    cases hv
    clear hx
    go_enter Tryd.func22, Tryd.ntmps22
    go_wp2_with (at_builtin; refine wpList_append_own _ rfl _ _ 23 rfl w.heap.size 9 i3 (.string ⟨#[]⟩) 1 16 Tryd.underlying23 hi3 hz3 hs3 hb3 rfl (by decide) (.slice none 0 0) 0 [] rfl (World.ownsRow_nil _ _ _ _) ⟨b, off, none⟩ xs.length cap (texts xs) rfl (by simp [texts]) (news_texts HS.out) (texts_one405 xs) (by unfold maxLen; omega) (by omega) (Nat.le_refl _) ?_; intro v1 w1 hown hgrow hnil; have HB1 : Hid (Below w.heap.size w w1) := below_of_grown hgrow (fun k hk => by cases hk) (Nat.le_refl _); have HO : Hid (w1.ownsRow w.heap.size 9 1 v1 xs.length (texts xs)) := (by rw [Nat.zero_add, List.nil_append] at hown; exact hown); clear hown hgrow hnil)
    go_ret
    exact ⟨_, rfl, HO.out, HB1.out⟩
end Go.Proofs.YtdjpeickokoclaaDoor
/-
  A ring with a key more.
-/
namespace Go.Proofs.YtdjpeickokoclaaDoor
open Go.RowKit
set_option linter.unusedVariables false
def intsV (ns : List Int) : List Value := ns.map fun n => .int .i64 n
theorem intsV_app (a b : List Int) : intsV (a ++ b) = intsV a ++ intsV b := by simp [intsV]
theorem one_int (n : Int) : ∀ u ∈ [Value.int .i64 n], u.oneCell' = true := by intro u hu; simp at hu; subst hu; rfl
theorem intsV_one (xs : List Int) : ∀ u ∈ intsV xs, u.oneCell' = true := by
  intro u hu
  simp only [intsV, List.mem_map] at hu
  obtain ⟨a, _, rfl⟩ := hu
  rfl
/-- Another row, of another type, was written behind its end. -/
theorem owns_grown {w w' : World} {lo lo' : Nat} {e e' : TypeId} {s s' n n' : Nat} {v v' : Value} {xs xs' : List Value} (h : w.ownsRow lo e s v n xs) (h' : w.ownsRow lo' e' s' v' n' xs') (hne : e ≠ e') (hg : w.grownBy w' v'.ownBlock) : w'.ownsRow lo e s v n xs := by
  have hap := rows_apart h h' hne
  refine ⟨h.1, ?_⟩
  rcases h.2 with h1 | ⟨g, cap, cur, hv, h2, h3, h4⟩
  · exact .inl h1
  · refine .inr ⟨g, cap, cur, hv, h2, ?_, h4⟩
    have hlt : g < w.heap.size := (Array.getElem?_eq_some_iff.1 h3).1
    rw [hg.block g hlt ?_]
    · exact h3
    · intro e0
      rcases hap with hap | hap
      · rw [hv] at hap; cases hap
      · exact hap (by rw [hv]; exact e0)
theorem news_ints {W : World} {xs : List Int} {b off n cap : Nat} (h : IntsAt W (.slice (some ⟨b, off, none⟩) n cap) xs) : ∀ j u, (intsV xs)[j]? = some u → W.cell? ((⟨b, off, none⟩ : Addr).add j) = some u := by
  intro j u hu
  have hj : j < xs.length := by have := (List.getElem?_eq_some_iff.1 hu).1; simpa [intsV] using this
  obtain ⟨b', off', cap', x, hv, _, hx, h0⟩ := h.at hj
  cases hv
  rw [add_plainI, h0]
  simp [intsV, hx] at hu
  rw [hu]
theorem intsRow_of_owns {lo : Nat} {w : World} {v : Value} {xs : List Int} {n : Nat} (h : w.ownsRow lo 3 1 v n (intsV xs)) (hn : n = xs.length) : IntsRow lo w.heap.size w v xs := by
  subst hn
  exact rowOwn_of_owns h fun f hf j x hj hx => hf j _ (by simp [intsV, hx])
theorem Tryd.info_int405 : (Tryd.prog.info? 3).map (fun i => (i.zero, i.size, i.bytes)) = some (some (.int .i64 0), 1, 8) := by kernel_rfl
theorem lt_of_block405 {w : World} {b : Nat} {o : Obj} (h : w.heap[b]? = some o) : b < w.heap.size := (Array.getElem?_eq_some_iff.1 h).1
theorem heap_oth405 (w : World) {B g o : Nat} (u : Value) (h : B ≠ g) : (w.setCell ⟨g, o, none⟩ u).heap[B]? = w.heap[B]? := Below.heap_setCell _ _ _ _ h
set_option maxHeartbeats 1000000 in
theorem copyOfI_any (w : World) (v : Value) (xs : List Int) (h : IntsAt w v xs) (hn : xs.length ≤ 1000) :
    Calls Tryd.prog 23 #[v] w fun e w' => ∃ v', e = .returned v' ∧ w'.ownsRow w.heap.size 3 1 v' xs.length (intsV xs) ∧ Below w.heap.size w w' := by
  obtain ⟨a, cap, rfl, hc, hm⟩ := h.form
  have HS : Hid (IntsAt w (.slice a xs.length cap) xs) := h
  clear h
  unfold maxLen at hm
  obtain ⟨i3, hi3, hz3, hs3, hb3⟩ := info_parts Tryd.info_int405
  by_cases h0 : xs = []
  · subst h0
    have hl : ([] : List Int).length = 0 := rfl
    rw [hl]
    cases a with
    | none =>
      go_enter Tryd.func23, Tryd.ntmps23
      go_wp2
      go_ret
      exact ⟨_, rfl, World.ownsRow_nil _ _ _ _, Below.refl _ _⟩
    | some ad =>
      go_enter Tryd.func23, Tryd.ntmps23
      go_wp2
      go_ret
      exact ⟨_, rfl, World.ownsRow_nil _ _ _ _, Below.refl _ _⟩
  · obtain ⟨b, off, cap1, x, hv, hbl, hx, _⟩ := HS.out.at (k := 0) (by cases xs with | nil => exact absurd rfl h0 | cons _ _ => simp)
    cases hv
    clear hx
    go_enter Tryd.func23, Tryd.ntmps23
    go_wp2_with (at_builtin; refine wpList_append_own _ rfl _ _ 24 rfl w.heap.size 3 i3 (.int .i64 0) 1 8 Tryd.underlying24 hi3 hz3 hs3 hb3 rfl (by decide) (.slice none 0 0) 0 [] rfl (World.ownsRow_nil _ _ _ _) ⟨b, off, none⟩ xs.length cap (intsV xs) rfl (by simp [intsV]) (news_ints HS.out) (intsV_one xs) (by unfold maxLen; omega) (by omega) (Nat.le_refl _) ?_; intro v1 w1 hown hgrow hnil; have HB1 : Hid (Below w.heap.size w w1) := below_of_grown hgrow (fun k hk => by cases hk) (Nat.le_refl _); have HO : Hid (w1.ownsRow w.heap.size 3 1 v1 xs.length (intsV xs)) := (by rw [Nat.zero_add, List.nil_append] at hown; exact hown); clear hown hgrow hnil)
    go_ret
    exact ⟨_, rfl, HO.out, HB1.out⟩
set_option maxHeartbeats 8000000 in
theorem longerRing_any (w : World) (v : Value) (x : RingM) (key : ByteArray) (fr : Int) (h : RingAt w v x) (hk1 : x.1.length ≤ 1000) (hk2 : x.2.length ≤ 1000) (hky : key.size ≤ maxLen) :
    Calls Tryd.prog 35 #[v, .string key, .int .i64 fr] w fun e w' => ∃ v', e = .returned v' ∧ RingOwn w.heap.size w'.heap.size w' v' (x.1 ++ [key], x.2 ++ [fr]) ∧ Below w.heap.size w w' := by
  obtain ⟨va, vn, rfl, ha, hn⟩ := h
  obtain ⟨ks, ns⟩ := x
  simp only at ha hn hk1 hk2
  have HFIT : Hid (∀ (i : Nat) (x : ByteArray), (ks ++ [key])[i]? = some x → x.size ≤ maxLen) := fun i x hx => by
    rcases Nat.lt_trichotomy i ks.length with h | h | h
    · rw [List.getElem?_append_left h] at hx; exact ha.fit i x hx
    · subst h; rw [List.getElem?_append_right (Nat.le_refl _)] at hx; simp at hx; rw [← hx]; exact hky
    · rw [List.getElem?_eq_none (by simp; omega)] at hx; cases hx
  obtain ⟨a, cap, rfl, hc, hm⟩ := ha.form
  obtain ⟨a', cap', rfl, hc', hm'⟩ := hn.form
  have HA : Hid (TextsAt w (.slice a ks.length cap) ks) := ha
  have HN : Hid (IntsAt w (.slice a' ns.length cap') ns) := hn
  clear ha hn hc hc' hm hm'
  obtain ⟨i3, hi3, hz3, hs3, hb3⟩ := info_parts Tryd.info_str405
  obtain ⟨i4, hi4, hz4, hs4, hb4⟩ := info_parts Tryd.info_int405
  go_enter Tryd.func35, Tryd.ntmps35
  go_wp2_with fail
  obtain ⟨W0, hW0⟩ : ∃ W0, ((w.alloc (.cells #[.slice a ks.length cap, .slice a' ns.length cap'] 26)).alloc (.cells #[.slice none 0 0, .slice none 0 0] 26)) = W0 := ⟨_, rfl⟩
  have L0 : Hid (Below w.heap.size w W0) := by rw [← hW0]; exact ((Below.refl _ _).alloc (Nat.le_refl _) _).alloc (by simp) _
  have B0 : Hid (W0.heap[w.heap.size]? = some (.cells #[.slice a ks.length cap, .slice a' ns.length cap'] 26 (0, 0))) := by
    show _ = _
    rw [← hW0]
    exact (((Below.refl _ (w.alloc (.cells #[.slice a ks.length cap, .slice a' ns.length cap'] 26))).alloc (Nat.le_refl _) (.cells #[.slice none 0 0, .slice none 0 0] 26)).block w.heap.size (by simp)).trans (heap_alloc_last w _)
  have R0 : Hid (W0.heap[w.heap.size + 1]? = some (.cells #[.slice none 0 0, .slice none 0 0] 26 (0, 0))) := by
    show _ = _
    rw [← hW0]
    have h2 := heap_alloc_last (w.alloc (.cells #[.slice a ks.length cap, .slice a' ns.length cap'] 26)) (.cells #[.slice none 0 0, .slice none 0 0] 26)
    rw [World.size_alloc] at h2
    exact h2
  rw [hW0]
  clear hW0
  have y0 : W0.cell? ⟨w.heap.size, 0, none⟩ = some (.slice a ks.length cap) := by rw [cell_of_row _ _ 0 _ _ _ B0.out]; rfl
  have y1 : W0.cell? ⟨w.heap.size, 1, none⟩ = some (.slice a' ns.length cap') := by rw [cell_of_row _ _ 1 _ _ _ B0.out]; rfl
  refine wp_region_held_drew (S := (fun w' => w'.cell? ⟨w.heap.size, 0, none⟩ = some (.slice a ks.length cap) ∧ w'.cell? ⟨w.heap.size, 1, none⟩ = some (.slice a' ns.length cap'))) (by kernel_rfl) ?_ (fun hHeld => ?_)
  · (first | go_keep | ((try dsimp only); go_keep))
  refine wpAnyH_takeD (i := 0) (d := 7) (v := .pointer (some ⟨w.heap.size, 0, none⟩)) rfl (by kernel_rfl) (by kernel_rfl) (by kernel_rfl) (fun _ _ _ h => h) (Or.inl ⟨by rfl, by intro w hSw; (try dsimp only at hSw); go_simp⟩) (by assumption) rfl ?_
  simp only [Act.put, List.setIfInBounds_toArray, List.set_cons_zero, List.set_cons_succ]
  refine wpAnyH_takeD (i := 1) (d := 8) (v := .slice a ks.length cap) rfl (by kernel_rfl) (by kernel_rfl) (by kernel_rfl) (fun _ _ _ h => h) (Or.inl ⟨by rfl, by intro w hSw; (try dsimp only at hSw); go_simp⟩) (by assumption) rfl ?_
  simp only [Act.put, List.setIfInBounds_toArray, List.set_cons_zero, List.set_cons_succ]
  refine wpAnyH_takeD (i := 3) (d := 10) (v := .string key) rfl (by kernel_rfl) (by kernel_rfl) (by kernel_rfl) (fun _ _ _ h => h) (Or.inl ⟨by rfl, by intro w hSw; (try dsimp only at hSw); go_simp⟩) (by assumption) rfl ?_
  simp only [Act.put, List.setIfInBounds_toArray, List.set_cons_zero, List.set_cons_succ]
  refine wpAnyH_takeD (i := 6) (d := 13) (v := .pointer (some ⟨w.heap.size, 1, none⟩)) rfl (by kernel_rfl) (by kernel_rfl) (by kernel_rfl) (fun _ _ _ h => h) (Or.inl ⟨by rfl, by intro w hSw; (try dsimp only at hSw); go_simp⟩) (by assumption) rfl ?_
  simp only [Act.put, List.setIfInBounds_toArray, List.set_cons_zero, List.set_cons_succ]
  refine wpAnyH_takeD (i := 7) (d := 14) (v := .slice a' ns.length cap') rfl (by kernel_rfl) (by kernel_rfl) (by kernel_rfl) (fun _ _ _ h => h) (Or.inl ⟨by rfl, by intro w hSw; (try dsimp only at hSw); go_simp⟩) (by assumption) rfl ?_
  simp only [Act.put, List.setIfInBounds_toArray, List.set_cons_zero, List.set_cons_succ]
  refine wpAnyH_takeD (i := 9) (d := 16) (v := .int .i64 fr) rfl (by kernel_rfl) (by kernel_rfl) (by kernel_rfl) (fun _ _ _ h => h) (Or.inl ⟨by rfl, by intro w hSw; (try dsimp only at hSw); go_simp⟩) (by assumption) rfl ?_
  simp only [Act.put, List.setIfInBounds_toArray, List.set_cons_zero, List.set_cons_succ]
  obtain ⟨w0, hw0⟩ : ∃ x, World.drew W0 = x := ⟨_, rfl⟩
  have E0 : Hid (Below W0.heap.size W0 w0) := by rw [← hw0]; exact (Below.refl _ _).drew
  rw [hw0]
  clear hw0
  have L00 : Hid (Below w.heap.size w w0) := L0.out.trans (E0.out.mono L0.out.size)
  have B00 : Hid (w0.heap[w.heap.size]? = some (.cells #[.slice a ks.length cap, .slice a' ns.length cap'] 26 (0, 0))) := (E0.out.block w.heap.size (lt_of_block405 B0.out)).trans B0.out
  have R00 : Hid (w0.heap[w.heap.size + 1]? = some (.cells #[.slice none 0 0, .slice none 0 0] 26 (0, 0))) := (E0.out.block (w.heap.size + 1) (lt_of_block405 R0.out)).trans R0.out
  clear y0 y1
  clear L0 B0 R0 E0
  have L0 := L00
  have B0 := B00
  have R0 := R00
  clear L00 B00 R00
  refine wpAnyH_ready (rs := [2, 4, 10]) (by kernel_rfl) (by simp) ?_
  refine AllReadyH.cons rfl (fun K hK => ?_) (AllReadyH.cons rfl (fun K hK => ?_) (AllReadyH.cons rfl (fun K hK => ?_) AllReadyH.nil))
  · skip
    go_simp
    go_at_call 22
    refine (copyOfT_any _ _ ks (HA.out.below L0.out) hk1).mono ?_
    rintro e w1 ⟨v9, rfl, ho, hb⟩
    have hb' : Below w0.heap.size w0 w1 := hb
    have L1 : Hid (Below w.heap.size w w1) := L0.out.trans (hb'.mono L0.out.size)
    have B1 : Hid (w1.heap[w.heap.size]? = some (.cells #[.slice a ks.length cap, .slice a' ns.length cap'] 26 (0, 0))) := (hb'.block w.heap.size (lt_of_block405 B0.out)).trans B0.out
    have R1 : Hid (w1.heap[w.heap.size + 1]? = some (.cells #[.slice none 0 0, .slice none 0 0] 26 (0, 0))) := (hb'.block (w.heap.size + 1) (lt_of_block405 R0.out)).trans R0.out
    have O1 : Hid (w1.ownsRow (w.heap.size + 1 + 1) 9 1 v9 ks.length (texts ks)) := owns_lower ho (by have := lt_of_block405 R0.out; simp only [World.drew] at *; omega)
    have z0 : w1.cell? ⟨w.heap.size, 0, none⟩ = some (.slice a ks.length cap) := by rw [cell_of_row _ _ 0 _ _ _ B1.out]; rfl
    have z1 : w1.cell? ⟨w.heap.size, 1, none⟩ = some (.slice a' ns.length cap') := by rw [cell_of_row _ _ 1 _ _ _ B1.out]; rfl
    clear ho hb hb'
    refine hK.out _ _ ?_ (fun hHeld => ?_)
    · (first | go_keep | ((try dsimp only); go_keep))
    clear hK K
    try simp only [Act.put, List.setIfInBounds_toArray, List.set_cons_zero, List.set_cons_succ]
    clear z0 z1
    refine wpAnyH_ready (rs := [4, 10]) (by kernel_rfl) (by simp) ?_
    refine AllReadyH.cons rfl (fun K hK => ?_) (AllReadyH.cons rfl (fun K hK => ?_) AllReadyH.nil)
    · skip
      go_simp
      obtain ⟨w2, hw2⟩ : ∃ x, w1.alloc (.cells #[.string key] 9) = x := ⟨_, rfl⟩
      have hb' : Below w1.heap.size w1 w2 := by rw [← hw2]; exact (Below.refl _ _).alloc (Nat.le_refl _) _
      obtain ⟨bx, hbx⟩ : ∃ x, w1.heap.size = x := ⟨_, rfl⟩
      have X2 : Hid (w2.heap[bx]? = some (.cells #[.string key] 9 (0, 0))) := by show _ = _; rw [← hw2, ← hbx]; exact heap_alloc_last w1 _
      have L2 : Hid (Below w.heap.size w w2) := L1.out.trans (hb'.mono L1.out.size)
      have B2 : Hid (w2.heap[w.heap.size]? = some (.cells #[.slice a ks.length cap, .slice a' ns.length cap'] 26 (0, 0))) := (hb'.block w.heap.size (lt_of_block405 B1.out)).trans B1.out
      have R2 : Hid (w2.heap[w.heap.size + 1]? = some (.cells #[.slice none 0 0, .slice none 0 0] 26 (0, 0))) := (hb'.block (w.heap.size + 1) (lt_of_block405 R1.out)).trans R1.out
      have O2 : Hid (w2.ownsRow (w.heap.size + 1 + 1) 9 1 v9 ks.length (texts ks)) := owns_below O1.out hb'
      have z0 : w2.cell? ⟨w.heap.size, 0, none⟩ = some (.slice a ks.length cap) := by rw [cell_of_row _ _ 0 _ _ _ B2.out]; rfl
      have z1 : w2.cell? ⟨w.heap.size, 1, none⟩ = some (.slice a' ns.length cap') := by rw [cell_of_row _ _ 1 _ _ _ B2.out]; rfl
      rw [hw2, hbx]
      clear hw2 hbx hb'
      refine hK.out _ _ ?_ (fun hHeld => ?_)
      · (first | go_keep | ((try dsimp only); go_keep))
      clear hK K
      try simp only [Act.put, List.setIfInBounds_toArray, List.set_cons_zero, List.set_cons_succ]
      clear z0 z1
      refine wpAnyH_ready (rs := [5, 10]) (by kernel_rfl) (by simp) ?_
      refine AllReadyH.cons rfl (fun K hK => ?_) (AllReadyH.cons rfl (fun K hK => ?_) AllReadyH.nil)
      · skip
        refine step_append_own rfl (.tmp 9) (.tmp 11) 23 rfl (w.heap.size + 1 + 1) 9 i3 (.string ⟨#[]⟩) 1 16 Tryd.underlying23 hi3 hz3 hs3 hb3 rfl (by decide) v9 ks.length (texts ks) rfl O2.out ⟨bx, 0, none⟩ 1 1 [.string key] rfl rfl (news_cells X2.out) (one_text key) (by unfold maxLen; omega) (by omega) (by have := lt_of_block405 R2.out; omega) ?_
        intro v12 w3 hown hgrow hnil
        have hge := own_block_ge O2.out
        have L3 : Hid (Below w.heap.size w w3) := L2.out.trans (below_of_grown hgrow (fun q hq => by have := hge q hq; omega) (by have := L2.out.size; omega))
        have B3 : Hid (w3.heap[w.heap.size]? = some (.cells #[.slice a ks.length cap, .slice a' ns.length cap'] 26 (0, 0))) := (hgrow.block w.heap.size (lt_of_block405 B2.out) (fun h => by have := hge _ h.symm; omega)).trans B2.out
        have R3 : Hid (w3.heap[w.heap.size + 1]? = some (.cells #[.slice none 0 0, .slice none 0 0] 26 (0, 0))) := (hgrow.block (w.heap.size + 1) (lt_of_block405 R2.out) (fun h => by have := hge _ h.symm; omega)).trans R2.out
        have O3 : Hid (w3.ownsRow (w.heap.size + 1 + 1) 9 1 v12 (ks.length + 1) ((texts ks) ++ [.string key])) := hown
        have z0 : w3.cell? ⟨w.heap.size, 0, none⟩ = some (.slice a ks.length cap) := by rw [cell_of_row _ _ 0 _ _ _ B3.out]; rfl
        have z1 : w3.cell? ⟨w.heap.size, 1, none⟩ = some (.slice a' ns.length cap') := by rw [cell_of_row _ _ 1 _ _ _ B3.out]; rfl
        clear hown hgrow hnil hge
        refine hK.out _ _ ?_ (fun hHeld => ?_)
        · (first | go_keep | ((try dsimp only); go_keep))
        clear hK K
        try simp only [Act.put, List.setIfInBounds_toArray]
        clear z0 z1
        refine wpAnyH_ready (rs := [8, 10]) (by kernel_rfl) (by simp) ?_
        refine AllReadyH.cons rfl (fun K hK => ?_) (AllReadyH.cons rfl (fun K hK => ?_) AllReadyH.nil)
        · skip
          go_simp
          go_at_call 23
          refine (copyOfI_any _ _ ns (HN.out.below L3.out) hk2).mono ?_
          rintro e w4 ⟨v15, rfl, ho, hb⟩
          have hb' : Below w3.heap.size w3 w4 := hb
          have L4 : Hid (Below w.heap.size w w4) := L3.out.trans (hb'.mono L3.out.size)
          have B4 : Hid (w4.heap[w.heap.size]? = some (.cells #[.slice a ks.length cap, .slice a' ns.length cap'] 26 (0, 0))) := (hb'.block w.heap.size (lt_of_block405 B3.out)).trans B3.out
          have R4 : Hid (w4.heap[w.heap.size + 1]? = some (.cells #[.slice none 0 0, .slice none 0 0] 26 (0, 0))) := (hb'.block (w.heap.size + 1) (lt_of_block405 R3.out)).trans R3.out
          have O4 : Hid (w4.ownsRow (w.heap.size + 1 + 1) 9 1 v12 (ks.length + 1) (texts ks ++ [.string key])) := owns_below O3.out hb'
          have I4 : Hid (w4.ownsRow (w.heap.size + 1 + 1) 3 1 v15 ns.length (intsV ns)) := owns_lower ho (by have := lt_of_block405 R3.out; simp only [World.drew] at *; omega)
          have z0 : w4.cell? ⟨w.heap.size, 0, none⟩ = some (.slice a ks.length cap) := by rw [cell_of_row _ _ 0 _ _ _ B4.out]; rfl
          have z1 : w4.cell? ⟨w.heap.size, 1, none⟩ = some (.slice a' ns.length cap') := by rw [cell_of_row _ _ 1 _ _ _ B4.out]; rfl
          clear ho hb hb'
          refine hK.out _ _ ?_ (fun hHeld => ?_)
          · (first | go_keep | ((try dsimp only); go_keep))
          clear hK K
          try simp only [Act.put, List.setIfInBounds_toArray, List.set_cons_zero, List.set_cons_succ]
          clear z0 z1
          refine wpAnyH_ready (rs := [10]) (by kernel_rfl) (by simp) ?_
          refine AllReadyH.cons rfl (fun K hK => ?_) AllReadyH.nil
          go_simp
          obtain ⟨w5, hw5⟩ : ∃ x, w4.alloc (.cells #[.int .i64 fr] 3) = x := ⟨_, rfl⟩
          have hb' : Below w4.heap.size w4 w5 := by rw [← hw5]; exact (Below.refl _ _).alloc (Nat.le_refl _) _
          obtain ⟨by0, hbx⟩ : ∃ x, w4.heap.size = x := ⟨_, rfl⟩
          have Y5 : Hid (w5.heap[by0]? = some (.cells #[.int .i64 fr] 3 (0, 0))) := by show _ = _; rw [← hw5, ← hbx]; exact heap_alloc_last w4 _
          have L5 : Hid (Below w.heap.size w w5) := L4.out.trans (hb'.mono L4.out.size)
          have B5 : Hid (w5.heap[w.heap.size]? = some (.cells #[.slice a ks.length cap, .slice a' ns.length cap'] 26 (0, 0))) := (hb'.block w.heap.size (lt_of_block405 B4.out)).trans B4.out
          have R5 : Hid (w5.heap[w.heap.size + 1]? = some (.cells #[.slice none 0 0, .slice none 0 0] 26 (0, 0))) := (hb'.block (w.heap.size + 1) (lt_of_block405 R4.out)).trans R4.out
          have O5 : Hid (w5.ownsRow (w.heap.size + 1 + 1) 9 1 v12 (ks.length + 1) (texts ks ++ [.string key])) := owns_below O4.out hb'
          have I5 : Hid (w5.ownsRow (w.heap.size + 1 + 1) 3 1 v15 ns.length (intsV ns)) := owns_below I4.out hb'
          have z0 : w5.cell? ⟨w.heap.size, 0, none⟩ = some (.slice a ks.length cap) := by rw [cell_of_row _ _ 0 _ _ _ B5.out]; rfl
          have z1 : w5.cell? ⟨w.heap.size, 1, none⟩ = some (.slice a' ns.length cap') := by rw [cell_of_row _ _ 1 _ _ _ B5.out]; rfl
          rw [hw5, hbx]
          clear hw5 hbx hb'
          refine hK.out _ _ ?_ (fun hHeld => ?_)
          · (first | go_keep | ((try dsimp only); go_keep))
          clear hK K
          try simp only [Act.put, List.setIfInBounds_toArray, List.set_cons_zero, List.set_cons_succ]
          clear z0 z1
          refine wpAnyH_ready (rs := [11]) (by kernel_rfl) (by simp) ?_
          refine AllReadyH.cons rfl (fun K hK => ?_) AllReadyH.nil
          refine step_append_own rfl (.tmp 15) (.tmp 17) 24 rfl (w.heap.size + 1 + 1) 3 i4 (.int .i64 0) 1 8 Tryd.underlying24 hi4 hz4 hs4 hb4 rfl (by decide) v15 ns.length (intsV ns) rfl I5.out ⟨by0, 0, none⟩ 1 1 [.int .i64 fr] rfl rfl (news_cells Y5.out) (one_int fr) (by unfold maxLen; omega) (by omega) (by have := lt_of_block405 R5.out; omega) ?_
          intro v18 w6 hown hgrow hnil
          have hge := own_block_ge I5.out
          have L6 : Hid (Below w.heap.size w w6) := L5.out.trans (below_of_grown hgrow (fun q hq => by have := hge q hq; omega) (by have := L5.out.size; omega))
          have B6 : Hid (w6.heap[w.heap.size]? = some (.cells #[.slice a ks.length cap, .slice a' ns.length cap'] 26 (0, 0))) := (hgrow.block w.heap.size (lt_of_block405 B5.out) (fun h => by have := hge _ h.symm; omega)).trans B5.out
          have R6 : Hid (w6.heap[w.heap.size + 1]? = some (.cells #[.slice none 0 0, .slice none 0 0] 26 (0, 0))) := (hgrow.block (w.heap.size + 1) (lt_of_block405 R5.out) (fun h => by have := hge _ h.symm; omega)).trans R5.out
          have O6 : Hid (w6.ownsRow (w.heap.size + 1 + 1) 9 1 v12 (ks.length + 1) (texts ks ++ [.string key])) := owns_grown O5.out I5.out (by decide) hgrow
          have I6 : Hid (w6.ownsRow (w.heap.size + 1 + 1) 3 1 v18 (ns.length + 1) ((intsV ns) ++ [.int .i64 fr])) := hown
          have z0 : w6.cell? ⟨w.heap.size, 0, none⟩ = some (.slice a ks.length cap) := by rw [cell_of_row _ _ 0 _ _ _ B6.out]; rfl
          have z1 : w6.cell? ⟨w.heap.size, 1, none⟩ = some (.slice a' ns.length cap') := by rw [cell_of_row _ _ 1 _ _ _ B6.out]; rfl
          clear hown hgrow hnil hge
          refine hK.out _ _ ?_ (fun hHeld => ?_)
          · (first | go_keep | ((try dsimp only); go_keep))
          clear hK K
          try simp only [Act.put, List.setIfInBounds_toArray]
          clear z0 z1
          obtain ⟨p12, c12, rfl⟩ := owns_form O6.out
          obtain ⟨p18, c18, rfl⟩ := owns_form I6.out
          have u0 := Go.Joins.unfrozen_of_block R6.out 0
          have u1 := Go.Joins.unfrozen_of_block R6.out 1
          have r0 : w6.cell? ⟨w.heap.size + 1, 0, none⟩ = some (.slice none 0 0) := by rw [cell_of_row _ _ 0 _ _ _ R6.out]; rfl
          have r1 : w6.cell? ⟨w.heap.size + 1, 1, none⟩ = some (.slice none 0 0) := by rw [cell_of_row _ _ 1 _ _ _ R6.out]; rfl
          refine wpAnyH_ready (rs := [12]) (by kernel_rfl) (by simp) ?_
          refine AllReadyH.cons rfl (fun K hK => ?_) AllReadyH.nil
          go_simp
          refine hK.out _ _ ?_ (fun hHeld => ?_)
          · (first | go_keep | ((try dsimp only); go_keep))
          clear hK K
          try simp only [Act.put, List.setIfInBounds_toArray, List.set_cons_zero, List.set_cons_succ]
          refine wpAnyH_ready (rs := [13]) (by kernel_rfl) (by simp) ?_
          refine AllReadyH.cons rfl (fun K hK => ?_) AllReadyH.nil
          go_simp
          refine hK.out _ _ ?_ (fun hHeld => ?_)
          · (first | go_keep | ((try dsimp only); go_keep))
          clear hK K
          try simp only [Act.put, List.setIfInBounds_toArray, List.set_cons_zero, List.set_cons_succ]
          refine wpAnyH_done (by kernel_rfl) ?_ _
          go_wp2
          refine bodyPost_ret (v := .agg #[.slice p12 (ks.length + 1) c12, .slice p18 (ns.length + 1) c18]) (by simp [results, Tryd.results35, go_sem, r0, r1, World.cell?_setCell_same', World.cell?_setCell_other]) rfl ⟨_, rfl, ⟨_, _, rfl, ?_, ?_⟩, ?_⟩
          · refine TextsRow.weak (textsRow_of_owns (n := ks.length + 1) (lo := (w.heap.size + 1 + 1)) ?_ (by simp) HFIT.out) (by omega) (Nat.le_refl _)
            have ho := owns_set (owns_set O6.out (w.heap.size + 1) 0 (.slice p12 (ks.length + 1) c12) (by omega)) (w.heap.size + 1) 1 (.slice p18 (ns.length + 1) c18) (by omega)
            rw [texts_append]; exact ho
          · refine IntsRow.weak (intsRow_of_owns (n := ns.length + 1) (lo := (w.heap.size + 1 + 1)) ?_ (by simp)) (by omega) (Nat.le_refl _)
            have ho := owns_set (owns_set I6.out (w.heap.size + 1) 0 (.slice p12 (ks.length + 1) c12) (by omega)) (w.heap.size + 1) 1 (.slice p18 (ns.length + 1) c18) (by omega)
            rw [intsV_app]; exact ho
          · exact (L6.out.setCell (by simp <;> omega) _).setCell (by simp <;> omega) _
        · skip
          go_simp
          obtain ⟨w4, hw4⟩ : ∃ x, w3.alloc (.cells #[.int .i64 fr] 3) = x := ⟨_, rfl⟩
          have hb' : Below w3.heap.size w3 w4 := by rw [← hw4]; exact (Below.refl _ _).alloc (Nat.le_refl _) _
          obtain ⟨by0, hbx⟩ : ∃ x, w3.heap.size = x := ⟨_, rfl⟩
          have Y4 : Hid (w4.heap[by0]? = some (.cells #[.int .i64 fr] 3 (0, 0))) := by show _ = _; rw [← hw4, ← hbx]; exact heap_alloc_last w3 _
          have L4 : Hid (Below w.heap.size w w4) := L3.out.trans (hb'.mono L3.out.size)
          have B4 : Hid (w4.heap[w.heap.size]? = some (.cells #[.slice a ks.length cap, .slice a' ns.length cap'] 26 (0, 0))) := (hb'.block w.heap.size (lt_of_block405 B3.out)).trans B3.out
          have R4 : Hid (w4.heap[w.heap.size + 1]? = some (.cells #[.slice none 0 0, .slice none 0 0] 26 (0, 0))) := (hb'.block (w.heap.size + 1) (lt_of_block405 R3.out)).trans R3.out
          have O4 : Hid (w4.ownsRow (w.heap.size + 1 + 1) 9 1 v12 (ks.length + 1) (texts ks ++ [.string key])) := owns_below O3.out hb'
          have z0 : w4.cell? ⟨w.heap.size, 0, none⟩ = some (.slice a ks.length cap) := by rw [cell_of_row _ _ 0 _ _ _ B4.out]; rfl
          have z1 : w4.cell? ⟨w.heap.size, 1, none⟩ = some (.slice a' ns.length cap') := by rw [cell_of_row _ _ 1 _ _ _ B4.out]; rfl
          rw [hw4, hbx]
          clear hw4 hbx hb'
          refine hK.out _ _ ?_ (fun hHeld => ?_)
          · (first | go_keep | ((try dsimp only); go_keep))
          clear hK K
          try simp only [Act.put, List.setIfInBounds_toArray, List.set_cons_zero, List.set_cons_succ]
          clear z0 z1
          refine wpAnyH_ready (rs := [8]) (by kernel_rfl) (by simp) ?_
          refine AllReadyH.cons rfl (fun K hK => ?_) AllReadyH.nil
          go_simp
          go_at_call 23
          refine (copyOfI_any _ _ ns (HN.out.below L4.out) hk2).mono ?_
          rintro e w5 ⟨v15, rfl, ho, hb⟩
          have hb' : Below w4.heap.size w4 w5 := hb
          have L5 : Hid (Below w.heap.size w w5) := L4.out.trans (hb'.mono L4.out.size)
          have B5 : Hid (w5.heap[w.heap.size]? = some (.cells #[.slice a ks.length cap, .slice a' ns.length cap'] 26 (0, 0))) := (hb'.block w.heap.size (lt_of_block405 B4.out)).trans B4.out
          have R5 : Hid (w5.heap[w.heap.size + 1]? = some (.cells #[.slice none 0 0, .slice none 0 0] 26 (0, 0))) := (hb'.block (w.heap.size + 1) (lt_of_block405 R4.out)).trans R4.out
          have O5 : Hid (w5.ownsRow (w.heap.size + 1 + 1) 9 1 v12 (ks.length + 1) (texts ks ++ [.string key])) := owns_below O4.out hb'
          have Y5 : Hid (w5.heap[by0]? = some (.cells #[.int .i64 fr] 3 (0, 0))) := (hb'.block by0 (lt_of_block405 Y4.out)).trans Y4.out
          have I5 : Hid (w5.ownsRow (w.heap.size + 1 + 1) 3 1 v15 ns.length (intsV ns)) := owns_lower ho (by have := lt_of_block405 R4.out; simp only [World.drew] at *; omega)
          have z0 : w5.cell? ⟨w.heap.size, 0, none⟩ = some (.slice a ks.length cap) := by rw [cell_of_row _ _ 0 _ _ _ B5.out]; rfl
          have z1 : w5.cell? ⟨w.heap.size, 1, none⟩ = some (.slice a' ns.length cap') := by rw [cell_of_row _ _ 1 _ _ _ B5.out]; rfl
          clear ho hb hb'
          refine hK.out _ _ ?_ (fun hHeld => ?_)
          · (first | go_keep | ((try dsimp only); go_keep))
          clear hK K
          try simp only [Act.put, List.setIfInBounds_toArray, List.set_cons_zero, List.set_cons_succ]
          clear z0 z1
          refine wpAnyH_ready (rs := [11]) (by kernel_rfl) (by simp) ?_
          refine AllReadyH.cons rfl (fun K hK => ?_) AllReadyH.nil
          refine step_append_own rfl (.tmp 15) (.tmp 17) 24 rfl (w.heap.size + 1 + 1) 3 i4 (.int .i64 0) 1 8 Tryd.underlying24 hi4 hz4 hs4 hb4 rfl (by decide) v15 ns.length (intsV ns) rfl I5.out ⟨by0, 0, none⟩ 1 1 [.int .i64 fr] rfl rfl (news_cells Y5.out) (one_int fr) (by unfold maxLen; omega) (by omega) (by have := lt_of_block405 R5.out; omega) ?_
          intro v18 w6 hown hgrow hnil
          have hge := own_block_ge I5.out
          have L6 : Hid (Below w.heap.size w w6) := L5.out.trans (below_of_grown hgrow (fun q hq => by have := hge q hq; omega) (by have := L5.out.size; omega))
          have B6 : Hid (w6.heap[w.heap.size]? = some (.cells #[.slice a ks.length cap, .slice a' ns.length cap'] 26 (0, 0))) := (hgrow.block w.heap.size (lt_of_block405 B5.out) (fun h => by have := hge _ h.symm; omega)).trans B5.out
          have R6 : Hid (w6.heap[w.heap.size + 1]? = some (.cells #[.slice none 0 0, .slice none 0 0] 26 (0, 0))) := (hgrow.block (w.heap.size + 1) (lt_of_block405 R5.out) (fun h => by have := hge _ h.symm; omega)).trans R5.out
          have O6 : Hid (w6.ownsRow (w.heap.size + 1 + 1) 9 1 v12 (ks.length + 1) (texts ks ++ [.string key])) := owns_grown O5.out I5.out (by decide) hgrow
          have I6 : Hid (w6.ownsRow (w.heap.size + 1 + 1) 3 1 v18 (ns.length + 1) ((intsV ns) ++ [.int .i64 fr])) := hown
          have z0 : w6.cell? ⟨w.heap.size, 0, none⟩ = some (.slice a ks.length cap) := by rw [cell_of_row _ _ 0 _ _ _ B6.out]; rfl
          have z1 : w6.cell? ⟨w.heap.size, 1, none⟩ = some (.slice a' ns.length cap') := by rw [cell_of_row _ _ 1 _ _ _ B6.out]; rfl
          clear hown hgrow hnil hge
          refine hK.out _ _ ?_ (fun hHeld => ?_)
          · (first | go_keep | ((try dsimp only); go_keep))
          clear hK K
          try simp only [Act.put, List.setIfInBounds_toArray]
          clear z0 z1
          obtain ⟨p12, c12, rfl⟩ := owns_form O6.out
          obtain ⟨p18, c18, rfl⟩ := owns_form I6.out
          have u0 := Go.Joins.unfrozen_of_block R6.out 0
          have u1 := Go.Joins.unfrozen_of_block R6.out 1
          have r0 : w6.cell? ⟨w.heap.size + 1, 0, none⟩ = some (.slice none 0 0) := by rw [cell_of_row _ _ 0 _ _ _ R6.out]; rfl
          have r1 : w6.cell? ⟨w.heap.size + 1, 1, none⟩ = some (.slice none 0 0) := by rw [cell_of_row _ _ 1 _ _ _ R6.out]; rfl
          refine wpAnyH_ready (rs := [12]) (by kernel_rfl) (by simp) ?_
          refine AllReadyH.cons rfl (fun K hK => ?_) AllReadyH.nil
          go_simp
          refine hK.out _ _ ?_ (fun hHeld => ?_)
          · (first | go_keep | ((try dsimp only); go_keep))
          clear hK K
          try simp only [Act.put, List.setIfInBounds_toArray, List.set_cons_zero, List.set_cons_succ]
          refine wpAnyH_ready (rs := [13]) (by kernel_rfl) (by simp) ?_
          refine AllReadyH.cons rfl (fun K hK => ?_) AllReadyH.nil
          go_simp
          refine hK.out _ _ ?_ (fun hHeld => ?_)
          · (first | go_keep | ((try dsimp only); go_keep))
          clear hK K
          try simp only [Act.put, List.setIfInBounds_toArray, List.set_cons_zero, List.set_cons_succ]
          refine wpAnyH_done (by kernel_rfl) ?_ _
          go_wp2
          refine bodyPost_ret (v := .agg #[.slice p12 (ks.length + 1) c12, .slice p18 (ns.length + 1) c18]) (by simp [results, Tryd.results35, go_sem, r0, r1, World.cell?_setCell_same', World.cell?_setCell_other]) rfl ⟨_, rfl, ⟨_, _, rfl, ?_, ?_⟩, ?_⟩
          · refine TextsRow.weak (textsRow_of_owns (n := ks.length + 1) (lo := (w.heap.size + 1 + 1)) ?_ (by simp) HFIT.out) (by omega) (Nat.le_refl _)
            have ho := owns_set (owns_set O6.out (w.heap.size + 1) 0 (.slice p12 (ks.length + 1) c12) (by omega)) (w.heap.size + 1) 1 (.slice p18 (ns.length + 1) c18) (by omega)
            rw [texts_append]; exact ho
          · refine IntsRow.weak (intsRow_of_owns (n := ns.length + 1) (lo := (w.heap.size + 1 + 1)) ?_ (by simp)) (by omega) (Nat.le_refl _)
            have ho := owns_set (owns_set I6.out (w.heap.size + 1) 0 (.slice p12 (ks.length + 1) c12) (by omega)) (w.heap.size + 1) 1 (.slice p18 (ns.length + 1) c18) (by omega)
            rw [intsV_app]; exact ho
          · exact (L6.out.setCell (by simp <;> omega) _).setCell (by simp <;> omega) _
      · skip
        go_simp
        obtain ⟨w3, hw3⟩ : ∃ x, w2.alloc (.cells #[.int .i64 fr] 3) = x := ⟨_, rfl⟩
        have hb' : Below w2.heap.size w2 w3 := by rw [← hw3]; exact (Below.refl _ _).alloc (Nat.le_refl _) _
        obtain ⟨by0, hbx⟩ : ∃ x, w2.heap.size = x := ⟨_, rfl⟩
        have Y3 : Hid (w3.heap[by0]? = some (.cells #[.int .i64 fr] 3 (0, 0))) := by show _ = _; rw [← hw3, ← hbx]; exact heap_alloc_last w2 _
        have L3 : Hid (Below w.heap.size w w3) := L2.out.trans (hb'.mono L2.out.size)
        have B3 : Hid (w3.heap[w.heap.size]? = some (.cells #[.slice a ks.length cap, .slice a' ns.length cap'] 26 (0, 0))) := (hb'.block w.heap.size (lt_of_block405 B2.out)).trans B2.out
        have R3 : Hid (w3.heap[w.heap.size + 1]? = some (.cells #[.slice none 0 0, .slice none 0 0] 26 (0, 0))) := (hb'.block (w.heap.size + 1) (lt_of_block405 R2.out)).trans R2.out
        have O3 : Hid (w3.ownsRow (w.heap.size + 1 + 1) 9 1 v9 ks.length (texts ks)) := owns_below O2.out hb'
        have X3 : Hid (w3.heap[bx]? = some (.cells #[.string key] 9 (0, 0))) := (hb'.block bx (lt_of_block405 X2.out)).trans X2.out
        have z0 : w3.cell? ⟨w.heap.size, 0, none⟩ = some (.slice a ks.length cap) := by rw [cell_of_row _ _ 0 _ _ _ B3.out]; rfl
        have z1 : w3.cell? ⟨w.heap.size, 1, none⟩ = some (.slice a' ns.length cap') := by rw [cell_of_row _ _ 1 _ _ _ B3.out]; rfl
        rw [hw3, hbx]
        clear hw3 hbx hb'
        refine hK.out _ _ ?_ (fun hHeld => ?_)
        · (first | go_keep | ((try dsimp only); go_keep))
        clear hK K
        try simp only [Act.put, List.setIfInBounds_toArray, List.set_cons_zero, List.set_cons_succ]
        clear z0 z1
        refine wpAnyH_ready (rs := [5]) (by kernel_rfl) (by simp) ?_
        refine AllReadyH.cons rfl (fun K hK => ?_) AllReadyH.nil
        refine step_append_own rfl (.tmp 9) (.tmp 11) 23 rfl (w.heap.size + 1 + 1) 9 i3 (.string ⟨#[]⟩) 1 16 Tryd.underlying23 hi3 hz3 hs3 hb3 rfl (by decide) v9 ks.length (texts ks) rfl O3.out ⟨bx, 0, none⟩ 1 1 [.string key] rfl rfl (news_cells X3.out) (one_text key) (by unfold maxLen; omega) (by omega) (by have := lt_of_block405 R3.out; omega) ?_
        intro v12 w4 hown hgrow hnil
        have hge := own_block_ge O3.out
        have L4 : Hid (Below w.heap.size w w4) := L3.out.trans (below_of_grown hgrow (fun q hq => by have := hge q hq; omega) (by have := L3.out.size; omega))
        have B4 : Hid (w4.heap[w.heap.size]? = some (.cells #[.slice a ks.length cap, .slice a' ns.length cap'] 26 (0, 0))) := (hgrow.block w.heap.size (lt_of_block405 B3.out) (fun h => by have := hge _ h.symm; omega)).trans B3.out
        have R4 : Hid (w4.heap[w.heap.size + 1]? = some (.cells #[.slice none 0 0, .slice none 0 0] 26 (0, 0))) := (hgrow.block (w.heap.size + 1) (lt_of_block405 R3.out) (fun h => by have := hge _ h.symm; omega)).trans R3.out
        have Y4 : Hid (w4.heap[by0]? = some (.cells #[.int .i64 fr] 3 (0, 0))) := (hgrow.block by0 (lt_of_block405 Y3.out) (row_ne_block O3.out Y3.out (by decide))).trans Y3.out
        have O4 : Hid (w4.ownsRow (w.heap.size + 1 + 1) 9 1 v12 (ks.length + 1) ((texts ks) ++ [.string key])) := hown
        have z0 : w4.cell? ⟨w.heap.size, 0, none⟩ = some (.slice a ks.length cap) := by rw [cell_of_row _ _ 0 _ _ _ B4.out]; rfl
        have z1 : w4.cell? ⟨w.heap.size, 1, none⟩ = some (.slice a' ns.length cap') := by rw [cell_of_row _ _ 1 _ _ _ B4.out]; rfl
        clear hown hgrow hnil hge
        refine hK.out _ _ ?_ (fun hHeld => ?_)
        · (first | go_keep | ((try dsimp only); go_keep))
        clear hK K
        try simp only [Act.put, List.setIfInBounds_toArray]
        clear z0 z1
        refine wpAnyH_ready (rs := [8]) (by kernel_rfl) (by simp) ?_
        refine AllReadyH.cons rfl (fun K hK => ?_) AllReadyH.nil
        go_simp
        go_at_call 23
        refine (copyOfI_any _ _ ns (HN.out.below L4.out) hk2).mono ?_
        rintro e w5 ⟨v15, rfl, ho, hb⟩
        have hb' : Below w4.heap.size w4 w5 := hb
        have L5 : Hid (Below w.heap.size w w5) := L4.out.trans (hb'.mono L4.out.size)
        have B5 : Hid (w5.heap[w.heap.size]? = some (.cells #[.slice a ks.length cap, .slice a' ns.length cap'] 26 (0, 0))) := (hb'.block w.heap.size (lt_of_block405 B4.out)).trans B4.out
        have R5 : Hid (w5.heap[w.heap.size + 1]? = some (.cells #[.slice none 0 0, .slice none 0 0] 26 (0, 0))) := (hb'.block (w.heap.size + 1) (lt_of_block405 R4.out)).trans R4.out
        have O5 : Hid (w5.ownsRow (w.heap.size + 1 + 1) 9 1 v12 (ks.length + 1) (texts ks ++ [.string key])) := owns_below O4.out hb'
        have Y5 : Hid (w5.heap[by0]? = some (.cells #[.int .i64 fr] 3 (0, 0))) := (hb'.block by0 (lt_of_block405 Y4.out)).trans Y4.out
        have I5 : Hid (w5.ownsRow (w.heap.size + 1 + 1) 3 1 v15 ns.length (intsV ns)) := owns_lower ho (by have := lt_of_block405 R4.out; simp only [World.drew] at *; omega)
        have z0 : w5.cell? ⟨w.heap.size, 0, none⟩ = some (.slice a ks.length cap) := by rw [cell_of_row _ _ 0 _ _ _ B5.out]; rfl
        have z1 : w5.cell? ⟨w.heap.size, 1, none⟩ = some (.slice a' ns.length cap') := by rw [cell_of_row _ _ 1 _ _ _ B5.out]; rfl
        clear ho hb hb'
        refine hK.out _ _ ?_ (fun hHeld => ?_)
        · (first | go_keep | ((try dsimp only); go_keep))
        clear hK K
        try simp only [Act.put, List.setIfInBounds_toArray, List.set_cons_zero, List.set_cons_succ]
        clear z0 z1
        refine wpAnyH_ready (rs := [11]) (by kernel_rfl) (by simp) ?_
        refine AllReadyH.cons rfl (fun K hK => ?_) AllReadyH.nil
        refine step_append_own rfl (.tmp 15) (.tmp 17) 24 rfl (w.heap.size + 1 + 1) 3 i4 (.int .i64 0) 1 8 Tryd.underlying24 hi4 hz4 hs4 hb4 rfl (by decide) v15 ns.length (intsV ns) rfl I5.out ⟨by0, 0, none⟩ 1 1 [.int .i64 fr] rfl rfl (news_cells Y5.out) (one_int fr) (by unfold maxLen; omega) (by omega) (by have := lt_of_block405 R5.out; omega) ?_
        intro v18 w6 hown hgrow hnil
        have hge := own_block_ge I5.out
        have L6 : Hid (Below w.heap.size w w6) := L5.out.trans (below_of_grown hgrow (fun q hq => by have := hge q hq; omega) (by have := L5.out.size; omega))
        have B6 : Hid (w6.heap[w.heap.size]? = some (.cells #[.slice a ks.length cap, .slice a' ns.length cap'] 26 (0, 0))) := (hgrow.block w.heap.size (lt_of_block405 B5.out) (fun h => by have := hge _ h.symm; omega)).trans B5.out
        have R6 : Hid (w6.heap[w.heap.size + 1]? = some (.cells #[.slice none 0 0, .slice none 0 0] 26 (0, 0))) := (hgrow.block (w.heap.size + 1) (lt_of_block405 R5.out) (fun h => by have := hge _ h.symm; omega)).trans R5.out
        have O6 : Hid (w6.ownsRow (w.heap.size + 1 + 1) 9 1 v12 (ks.length + 1) (texts ks ++ [.string key])) := owns_grown O5.out I5.out (by decide) hgrow
        have I6 : Hid (w6.ownsRow (w.heap.size + 1 + 1) 3 1 v18 (ns.length + 1) ((intsV ns) ++ [.int .i64 fr])) := hown
        have z0 : w6.cell? ⟨w.heap.size, 0, none⟩ = some (.slice a ks.length cap) := by rw [cell_of_row _ _ 0 _ _ _ B6.out]; rfl
        have z1 : w6.cell? ⟨w.heap.size, 1, none⟩ = some (.slice a' ns.length cap') := by rw [cell_of_row _ _ 1 _ _ _ B6.out]; rfl
        clear hown hgrow hnil hge
        refine hK.out _ _ ?_ (fun hHeld => ?_)
        · (first | go_keep | ((try dsimp only); go_keep))
        clear hK K
        try simp only [Act.put, List.setIfInBounds_toArray]
        clear z0 z1
        obtain ⟨p12, c12, rfl⟩ := owns_form O6.out
        obtain ⟨p18, c18, rfl⟩ := owns_form I6.out
        have u0 := Go.Joins.unfrozen_of_block R6.out 0
        have u1 := Go.Joins.unfrozen_of_block R6.out 1
        have r0 : w6.cell? ⟨w.heap.size + 1, 0, none⟩ = some (.slice none 0 0) := by rw [cell_of_row _ _ 0 _ _ _ R6.out]; rfl
        have r1 : w6.cell? ⟨w.heap.size + 1, 1, none⟩ = some (.slice none 0 0) := by rw [cell_of_row _ _ 1 _ _ _ R6.out]; rfl
        refine wpAnyH_ready (rs := [12]) (by kernel_rfl) (by simp) ?_
        refine AllReadyH.cons rfl (fun K hK => ?_) AllReadyH.nil
        go_simp
        refine hK.out _ _ ?_ (fun hHeld => ?_)
        · (first | go_keep | ((try dsimp only); go_keep))
        clear hK K
        try simp only [Act.put, List.setIfInBounds_toArray, List.set_cons_zero, List.set_cons_succ]
        refine wpAnyH_ready (rs := [13]) (by kernel_rfl) (by simp) ?_
        refine AllReadyH.cons rfl (fun K hK => ?_) AllReadyH.nil
        go_simp
        refine hK.out _ _ ?_ (fun hHeld => ?_)
        · (first | go_keep | ((try dsimp only); go_keep))
        clear hK K
        try simp only [Act.put, List.setIfInBounds_toArray, List.set_cons_zero, List.set_cons_succ]
        refine wpAnyH_done (by kernel_rfl) ?_ _
        go_wp2
        refine bodyPost_ret (v := .agg #[.slice p12 (ks.length + 1) c12, .slice p18 (ns.length + 1) c18]) (by simp [results, Tryd.results35, go_sem, r0, r1, World.cell?_setCell_same', World.cell?_setCell_other]) rfl ⟨_, rfl, ⟨_, _, rfl, ?_, ?_⟩, ?_⟩
        · refine TextsRow.weak (textsRow_of_owns (n := ks.length + 1) (lo := (w.heap.size + 1 + 1)) ?_ (by simp) HFIT.out) (by omega) (Nat.le_refl _)
          have ho := owns_set (owns_set O6.out (w.heap.size + 1) 0 (.slice p12 (ks.length + 1) c12) (by omega)) (w.heap.size + 1) 1 (.slice p18 (ns.length + 1) c18) (by omega)
          rw [texts_append]; exact ho
        · refine IntsRow.weak (intsRow_of_owns (n := ns.length + 1) (lo := (w.heap.size + 1 + 1)) ?_ (by simp)) (by omega) (Nat.le_refl _)
          have ho := owns_set (owns_set I6.out (w.heap.size + 1) 0 (.slice p12 (ks.length + 1) c12) (by omega)) (w.heap.size + 1) 1 (.slice p18 (ns.length + 1) c18) (by omega)
          rw [intsV_app]; exact ho
        · exact (L6.out.setCell (by simp <;> omega) _).setCell (by simp <;> omega) _
    · skip
      go_simp
      obtain ⟨w2, hw2⟩ : ∃ x, w1.alloc (.cells #[.int .i64 fr] 3) = x := ⟨_, rfl⟩
      have hb' : Below w1.heap.size w1 w2 := by rw [← hw2]; exact (Below.refl _ _).alloc (Nat.le_refl _) _
      obtain ⟨by0, hbx⟩ : ∃ x, w1.heap.size = x := ⟨_, rfl⟩
      have Y2 : Hid (w2.heap[by0]? = some (.cells #[.int .i64 fr] 3 (0, 0))) := by show _ = _; rw [← hw2, ← hbx]; exact heap_alloc_last w1 _
      have L2 : Hid (Below w.heap.size w w2) := L1.out.trans (hb'.mono L1.out.size)
      have B2 : Hid (w2.heap[w.heap.size]? = some (.cells #[.slice a ks.length cap, .slice a' ns.length cap'] 26 (0, 0))) := (hb'.block w.heap.size (lt_of_block405 B1.out)).trans B1.out
      have R2 : Hid (w2.heap[w.heap.size + 1]? = some (.cells #[.slice none 0 0, .slice none 0 0] 26 (0, 0))) := (hb'.block (w.heap.size + 1) (lt_of_block405 R1.out)).trans R1.out
      have O2 : Hid (w2.ownsRow (w.heap.size + 1 + 1) 9 1 v9 ks.length (texts ks)) := owns_below O1.out hb'
      have z0 : w2.cell? ⟨w.heap.size, 0, none⟩ = some (.slice a ks.length cap) := by rw [cell_of_row _ _ 0 _ _ _ B2.out]; rfl
      have z1 : w2.cell? ⟨w.heap.size, 1, none⟩ = some (.slice a' ns.length cap') := by rw [cell_of_row _ _ 1 _ _ _ B2.out]; rfl
      rw [hw2, hbx]
      clear hw2 hbx hb'
      refine hK.out _ _ ?_ (fun hHeld => ?_)
      · (first | go_keep | ((try dsimp only); go_keep))
      clear hK K
      try simp only [Act.put, List.setIfInBounds_toArray, List.set_cons_zero, List.set_cons_succ]
      clear z0 z1
      refine wpAnyH_ready (rs := [4]) (by kernel_rfl) (by simp) ?_
      refine AllReadyH.cons rfl (fun K hK => ?_) AllReadyH.nil
      go_simp
      obtain ⟨w3, hw3⟩ : ∃ x, w2.alloc (.cells #[.string key] 9) = x := ⟨_, rfl⟩
      have hb' : Below w2.heap.size w2 w3 := by rw [← hw3]; exact (Below.refl _ _).alloc (Nat.le_refl _) _
      obtain ⟨bx, hbx⟩ : ∃ x, w2.heap.size = x := ⟨_, rfl⟩
      have X3 : Hid (w3.heap[bx]? = some (.cells #[.string key] 9 (0, 0))) := by show _ = _; rw [← hw3, ← hbx]; exact heap_alloc_last w2 _
      have L3 : Hid (Below w.heap.size w w3) := L2.out.trans (hb'.mono L2.out.size)
      have B3 : Hid (w3.heap[w.heap.size]? = some (.cells #[.slice a ks.length cap, .slice a' ns.length cap'] 26 (0, 0))) := (hb'.block w.heap.size (lt_of_block405 B2.out)).trans B2.out
      have R3 : Hid (w3.heap[w.heap.size + 1]? = some (.cells #[.slice none 0 0, .slice none 0 0] 26 (0, 0))) := (hb'.block (w.heap.size + 1) (lt_of_block405 R2.out)).trans R2.out
      have O3 : Hid (w3.ownsRow (w.heap.size + 1 + 1) 9 1 v9 ks.length (texts ks)) := owns_below O2.out hb'
      have Y3 : Hid (w3.heap[by0]? = some (.cells #[.int .i64 fr] 3 (0, 0))) := (hb'.block by0 (lt_of_block405 Y2.out)).trans Y2.out
      have z0 : w3.cell? ⟨w.heap.size, 0, none⟩ = some (.slice a ks.length cap) := by rw [cell_of_row _ _ 0 _ _ _ B3.out]; rfl
      have z1 : w3.cell? ⟨w.heap.size, 1, none⟩ = some (.slice a' ns.length cap') := by rw [cell_of_row _ _ 1 _ _ _ B3.out]; rfl
      rw [hw3, hbx]
      clear hw3 hbx hb'
      refine hK.out _ _ ?_ (fun hHeld => ?_)
      · (first | go_keep | ((try dsimp only); go_keep))
      clear hK K
      try simp only [Act.put, List.setIfInBounds_toArray, List.set_cons_zero, List.set_cons_succ]
      clear z0 z1
      refine wpAnyH_ready (rs := [5]) (by kernel_rfl) (by simp) ?_
      refine AllReadyH.cons rfl (fun K hK => ?_) AllReadyH.nil
      refine step_append_own rfl (.tmp 9) (.tmp 11) 23 rfl (w.heap.size + 1 + 1) 9 i3 (.string ⟨#[]⟩) 1 16 Tryd.underlying23 hi3 hz3 hs3 hb3 rfl (by decide) v9 ks.length (texts ks) rfl O3.out ⟨bx, 0, none⟩ 1 1 [.string key] rfl rfl (news_cells X3.out) (one_text key) (by unfold maxLen; omega) (by omega) (by have := lt_of_block405 R3.out; omega) ?_
      intro v12 w4 hown hgrow hnil
      have hge := own_block_ge O3.out
      have L4 : Hid (Below w.heap.size w w4) := L3.out.trans (below_of_grown hgrow (fun q hq => by have := hge q hq; omega) (by have := L3.out.size; omega))
      have B4 : Hid (w4.heap[w.heap.size]? = some (.cells #[.slice a ks.length cap, .slice a' ns.length cap'] 26 (0, 0))) := (hgrow.block w.heap.size (lt_of_block405 B3.out) (fun h => by have := hge _ h.symm; omega)).trans B3.out
      have R4 : Hid (w4.heap[w.heap.size + 1]? = some (.cells #[.slice none 0 0, .slice none 0 0] 26 (0, 0))) := (hgrow.block (w.heap.size + 1) (lt_of_block405 R3.out) (fun h => by have := hge _ h.symm; omega)).trans R3.out
      have Y4 : Hid (w4.heap[by0]? = some (.cells #[.int .i64 fr] 3 (0, 0))) := (hgrow.block by0 (lt_of_block405 Y3.out) (row_ne_block O3.out Y3.out (by decide))).trans Y3.out
      have O4 : Hid (w4.ownsRow (w.heap.size + 1 + 1) 9 1 v12 (ks.length + 1) ((texts ks) ++ [.string key])) := hown
      have z0 : w4.cell? ⟨w.heap.size, 0, none⟩ = some (.slice a ks.length cap) := by rw [cell_of_row _ _ 0 _ _ _ B4.out]; rfl
      have z1 : w4.cell? ⟨w.heap.size, 1, none⟩ = some (.slice a' ns.length cap') := by rw [cell_of_row _ _ 1 _ _ _ B4.out]; rfl
      clear hown hgrow hnil hge
      refine hK.out _ _ ?_ (fun hHeld => ?_)
      · (first | go_keep | ((try dsimp only); go_keep))
      clear hK K
      try simp only [Act.put, List.setIfInBounds_toArray]
      clear z0 z1
      refine wpAnyH_ready (rs := [8]) (by kernel_rfl) (by simp) ?_
      refine AllReadyH.cons rfl (fun K hK => ?_) AllReadyH.nil
      go_simp
      go_at_call 23
      refine (copyOfI_any _ _ ns (HN.out.below L4.out) hk2).mono ?_
      rintro e w5 ⟨v15, rfl, ho, hb⟩
      have hb' : Below w4.heap.size w4 w5 := hb
      have L5 : Hid (Below w.heap.size w w5) := L4.out.trans (hb'.mono L4.out.size)
      have B5 : Hid (w5.heap[w.heap.size]? = some (.cells #[.slice a ks.length cap, .slice a' ns.length cap'] 26 (0, 0))) := (hb'.block w.heap.size (lt_of_block405 B4.out)).trans B4.out
      have R5 : Hid (w5.heap[w.heap.size + 1]? = some (.cells #[.slice none 0 0, .slice none 0 0] 26 (0, 0))) := (hb'.block (w.heap.size + 1) (lt_of_block405 R4.out)).trans R4.out
      have O5 : Hid (w5.ownsRow (w.heap.size + 1 + 1) 9 1 v12 (ks.length + 1) (texts ks ++ [.string key])) := owns_below O4.out hb'
      have Y5 : Hid (w5.heap[by0]? = some (.cells #[.int .i64 fr] 3 (0, 0))) := (hb'.block by0 (lt_of_block405 Y4.out)).trans Y4.out
      have I5 : Hid (w5.ownsRow (w.heap.size + 1 + 1) 3 1 v15 ns.length (intsV ns)) := owns_lower ho (by have := lt_of_block405 R4.out; simp only [World.drew] at *; omega)
      have z0 : w5.cell? ⟨w.heap.size, 0, none⟩ = some (.slice a ks.length cap) := by rw [cell_of_row _ _ 0 _ _ _ B5.out]; rfl
      have z1 : w5.cell? ⟨w.heap.size, 1, none⟩ = some (.slice a' ns.length cap') := by rw [cell_of_row _ _ 1 _ _ _ B5.out]; rfl
      clear ho hb hb'
      refine hK.out _ _ ?_ (fun hHeld => ?_)
      · (first | go_keep | ((try dsimp only); go_keep))
      clear hK K
      try simp only [Act.put, List.setIfInBounds_toArray, List.set_cons_zero, List.set_cons_succ]
      clear z0 z1
      refine wpAnyH_ready (rs := [11]) (by kernel_rfl) (by simp) ?_
      refine AllReadyH.cons rfl (fun K hK => ?_) AllReadyH.nil
      refine step_append_own rfl (.tmp 15) (.tmp 17) 24 rfl (w.heap.size + 1 + 1) 3 i4 (.int .i64 0) 1 8 Tryd.underlying24 hi4 hz4 hs4 hb4 rfl (by decide) v15 ns.length (intsV ns) rfl I5.out ⟨by0, 0, none⟩ 1 1 [.int .i64 fr] rfl rfl (news_cells Y5.out) (one_int fr) (by unfold maxLen; omega) (by omega) (by have := lt_of_block405 R5.out; omega) ?_
      intro v18 w6 hown hgrow hnil
      have hge := own_block_ge I5.out
      have L6 : Hid (Below w.heap.size w w6) := L5.out.trans (below_of_grown hgrow (fun q hq => by have := hge q hq; omega) (by have := L5.out.size; omega))
      have B6 : Hid (w6.heap[w.heap.size]? = some (.cells #[.slice a ks.length cap, .slice a' ns.length cap'] 26 (0, 0))) := (hgrow.block w.heap.size (lt_of_block405 B5.out) (fun h => by have := hge _ h.symm; omega)).trans B5.out
      have R6 : Hid (w6.heap[w.heap.size + 1]? = some (.cells #[.slice none 0 0, .slice none 0 0] 26 (0, 0))) := (hgrow.block (w.heap.size + 1) (lt_of_block405 R5.out) (fun h => by have := hge _ h.symm; omega)).trans R5.out
      have O6 : Hid (w6.ownsRow (w.heap.size + 1 + 1) 9 1 v12 (ks.length + 1) (texts ks ++ [.string key])) := owns_grown O5.out I5.out (by decide) hgrow
      have I6 : Hid (w6.ownsRow (w.heap.size + 1 + 1) 3 1 v18 (ns.length + 1) ((intsV ns) ++ [.int .i64 fr])) := hown
      have z0 : w6.cell? ⟨w.heap.size, 0, none⟩ = some (.slice a ks.length cap) := by rw [cell_of_row _ _ 0 _ _ _ B6.out]; rfl
      have z1 : w6.cell? ⟨w.heap.size, 1, none⟩ = some (.slice a' ns.length cap') := by rw [cell_of_row _ _ 1 _ _ _ B6.out]; rfl
      clear hown hgrow hnil hge
      refine hK.out _ _ ?_ (fun hHeld => ?_)
      · (first | go_keep | ((try dsimp only); go_keep))
      clear hK K
      try simp only [Act.put, List.setIfInBounds_toArray]
      clear z0 z1
      obtain ⟨p12, c12, rfl⟩ := owns_form O6.out
      obtain ⟨p18, c18, rfl⟩ := owns_form I6.out
      have u0 := Go.Joins.unfrozen_of_block R6.out 0
      have u1 := Go.Joins.unfrozen_of_block R6.out 1
      have r0 : w6.cell? ⟨w.heap.size + 1, 0, none⟩ = some (.slice none 0 0) := by rw [cell_of_row _ _ 0 _ _ _ R6.out]; rfl
      have r1 : w6.cell? ⟨w.heap.size + 1, 1, none⟩ = some (.slice none 0 0) := by rw [cell_of_row _ _ 1 _ _ _ R6.out]; rfl
      refine wpAnyH_ready (rs := [12]) (by kernel_rfl) (by simp) ?_
      refine AllReadyH.cons rfl (fun K hK => ?_) AllReadyH.nil
      go_simp
      refine hK.out _ _ ?_ (fun hHeld => ?_)
      · (first | go_keep | ((try dsimp only); go_keep))
      clear hK K
      try simp only [Act.put, List.setIfInBounds_toArray, List.set_cons_zero, List.set_cons_succ]
      refine wpAnyH_ready (rs := [13]) (by kernel_rfl) (by simp) ?_
      refine AllReadyH.cons rfl (fun K hK => ?_) AllReadyH.nil
      go_simp
      refine hK.out _ _ ?_ (fun hHeld => ?_)
      · (first | go_keep | ((try dsimp only); go_keep))
      clear hK K
      try simp only [Act.put, List.setIfInBounds_toArray, List.set_cons_zero, List.set_cons_succ]
      refine wpAnyH_done (by kernel_rfl) ?_ _
      go_wp2
      refine bodyPost_ret (v := .agg #[.slice p12 (ks.length + 1) c12, .slice p18 (ns.length + 1) c18]) (by simp [results, Tryd.results35, go_sem, r0, r1, World.cell?_setCell_same', World.cell?_setCell_other]) rfl ⟨_, rfl, ⟨_, _, rfl, ?_, ?_⟩, ?_⟩
      · refine TextsRow.weak (textsRow_of_owns (n := ks.length + 1) (lo := (w.heap.size + 1 + 1)) ?_ (by simp) HFIT.out) (by omega) (Nat.le_refl _)
        have ho := owns_set (owns_set O6.out (w.heap.size + 1) 0 (.slice p12 (ks.length + 1) c12) (by omega)) (w.heap.size + 1) 1 (.slice p18 (ns.length + 1) c18) (by omega)
        rw [texts_append]; exact ho
      · refine IntsRow.weak (intsRow_of_owns (n := ns.length + 1) (lo := (w.heap.size + 1 + 1)) ?_ (by simp)) (by omega) (Nat.le_refl _)
        have ho := owns_set (owns_set I6.out (w.heap.size + 1) 0 (.slice p12 (ks.length + 1) c12) (by omega)) (w.heap.size + 1) 1 (.slice p18 (ns.length + 1) c18) (by omega)
        rw [intsV_app]; exact ho
      · exact (L6.out.setCell (by simp <;> omega) _).setCell (by simp <;> omega) _
  · skip
    go_simp
    obtain ⟨w1, hw1⟩ : ∃ x, w0.alloc (.cells #[.string key] 9) = x := ⟨_, rfl⟩
    have hb' : Below w0.heap.size w0 w1 := by rw [← hw1]; exact (Below.refl _ _).alloc (Nat.le_refl _) _
    obtain ⟨bx, hbx⟩ : ∃ x, w0.heap.size = x := ⟨_, rfl⟩
    have X1 : Hid (w1.heap[bx]? = some (.cells #[.string key] 9 (0, 0))) := by show _ = _; rw [← hw1, ← hbx]; exact heap_alloc_last w0 _
    have L1 : Hid (Below w.heap.size w w1) := L0.out.trans (hb'.mono L0.out.size)
    have B1 : Hid (w1.heap[w.heap.size]? = some (.cells #[.slice a ks.length cap, .slice a' ns.length cap'] 26 (0, 0))) := (hb'.block w.heap.size (lt_of_block405 B0.out)).trans B0.out
    have R1 : Hid (w1.heap[w.heap.size + 1]? = some (.cells #[.slice none 0 0, .slice none 0 0] 26 (0, 0))) := (hb'.block (w.heap.size + 1) (lt_of_block405 R0.out)).trans R0.out
    have z0 : w1.cell? ⟨w.heap.size, 0, none⟩ = some (.slice a ks.length cap) := by rw [cell_of_row _ _ 0 _ _ _ B1.out]; rfl
    have z1 : w1.cell? ⟨w.heap.size, 1, none⟩ = some (.slice a' ns.length cap') := by rw [cell_of_row _ _ 1 _ _ _ B1.out]; rfl
    rw [hw1, hbx]
    clear hw1 hbx hb'
    refine hK.out _ _ ?_ (fun hHeld => ?_)
    · (first | go_keep | ((try dsimp only); go_keep))
    clear hK K
    try simp only [Act.put, List.setIfInBounds_toArray, List.set_cons_zero, List.set_cons_succ]
    clear z0 z1
    refine wpAnyH_ready (rs := [2, 10]) (by kernel_rfl) (by simp) ?_
    refine AllReadyH.cons rfl (fun K hK => ?_) (AllReadyH.cons rfl (fun K hK => ?_) AllReadyH.nil)
    · skip
      go_simp
      go_at_call 22
      refine (copyOfT_any _ _ ks (HA.out.below L1.out) hk1).mono ?_
      rintro e w2 ⟨v9, rfl, ho, hb⟩
      have hb' : Below w1.heap.size w1 w2 := hb
      have L2 : Hid (Below w.heap.size w w2) := L1.out.trans (hb'.mono L1.out.size)
      have B2 : Hid (w2.heap[w.heap.size]? = some (.cells #[.slice a ks.length cap, .slice a' ns.length cap'] 26 (0, 0))) := (hb'.block w.heap.size (lt_of_block405 B1.out)).trans B1.out
      have R2 : Hid (w2.heap[w.heap.size + 1]? = some (.cells #[.slice none 0 0, .slice none 0 0] 26 (0, 0))) := (hb'.block (w.heap.size + 1) (lt_of_block405 R1.out)).trans R1.out
      have X2 : Hid (w2.heap[bx]? = some (.cells #[.string key] 9 (0, 0))) := (hb'.block bx (lt_of_block405 X1.out)).trans X1.out
      have O2 : Hid (w2.ownsRow (w.heap.size + 1 + 1) 9 1 v9 ks.length (texts ks)) := owns_lower ho (by have := lt_of_block405 R1.out; simp only [World.drew] at *; omega)
      have z0 : w2.cell? ⟨w.heap.size, 0, none⟩ = some (.slice a ks.length cap) := by rw [cell_of_row _ _ 0 _ _ _ B2.out]; rfl
      have z1 : w2.cell? ⟨w.heap.size, 1, none⟩ = some (.slice a' ns.length cap') := by rw [cell_of_row _ _ 1 _ _ _ B2.out]; rfl
      clear ho hb hb'
      refine hK.out _ _ ?_ (fun hHeld => ?_)
      · (first | go_keep | ((try dsimp only); go_keep))
      clear hK K
      try simp only [Act.put, List.setIfInBounds_toArray, List.set_cons_zero, List.set_cons_succ]
      clear z0 z1
      refine wpAnyH_ready (rs := [5, 10]) (by kernel_rfl) (by simp) ?_
      refine AllReadyH.cons rfl (fun K hK => ?_) (AllReadyH.cons rfl (fun K hK => ?_) AllReadyH.nil)
      · skip
        refine step_append_own rfl (.tmp 9) (.tmp 11) 23 rfl (w.heap.size + 1 + 1) 9 i3 (.string ⟨#[]⟩) 1 16 Tryd.underlying23 hi3 hz3 hs3 hb3 rfl (by decide) v9 ks.length (texts ks) rfl O2.out ⟨bx, 0, none⟩ 1 1 [.string key] rfl rfl (news_cells X2.out) (one_text key) (by unfold maxLen; omega) (by omega) (by have := lt_of_block405 R2.out; omega) ?_
        intro v12 w3 hown hgrow hnil
        have hge := own_block_ge O2.out
        have L3 : Hid (Below w.heap.size w w3) := L2.out.trans (below_of_grown hgrow (fun q hq => by have := hge q hq; omega) (by have := L2.out.size; omega))
        have B3 : Hid (w3.heap[w.heap.size]? = some (.cells #[.slice a ks.length cap, .slice a' ns.length cap'] 26 (0, 0))) := (hgrow.block w.heap.size (lt_of_block405 B2.out) (fun h => by have := hge _ h.symm; omega)).trans B2.out
        have R3 : Hid (w3.heap[w.heap.size + 1]? = some (.cells #[.slice none 0 0, .slice none 0 0] 26 (0, 0))) := (hgrow.block (w.heap.size + 1) (lt_of_block405 R2.out) (fun h => by have := hge _ h.symm; omega)).trans R2.out
        have O3 : Hid (w3.ownsRow (w.heap.size + 1 + 1) 9 1 v12 (ks.length + 1) ((texts ks) ++ [.string key])) := hown
        have z0 : w3.cell? ⟨w.heap.size, 0, none⟩ = some (.slice a ks.length cap) := by rw [cell_of_row _ _ 0 _ _ _ B3.out]; rfl
        have z1 : w3.cell? ⟨w.heap.size, 1, none⟩ = some (.slice a' ns.length cap') := by rw [cell_of_row _ _ 1 _ _ _ B3.out]; rfl
        clear hown hgrow hnil hge
        refine hK.out _ _ ?_ (fun hHeld => ?_)
        · (first | go_keep | ((try dsimp only); go_keep))
        clear hK K
        try simp only [Act.put, List.setIfInBounds_toArray]
        clear z0 z1
        refine wpAnyH_ready (rs := [8, 10]) (by kernel_rfl) (by simp) ?_
        refine AllReadyH.cons rfl (fun K hK => ?_) (AllReadyH.cons rfl (fun K hK => ?_) AllReadyH.nil)
        · skip
          go_simp
          go_at_call 23
          refine (copyOfI_any _ _ ns (HN.out.below L3.out) hk2).mono ?_
          rintro e w4 ⟨v15, rfl, ho, hb⟩
          have hb' : Below w3.heap.size w3 w4 := hb
          have L4 : Hid (Below w.heap.size w w4) := L3.out.trans (hb'.mono L3.out.size)
          have B4 : Hid (w4.heap[w.heap.size]? = some (.cells #[.slice a ks.length cap, .slice a' ns.length cap'] 26 (0, 0))) := (hb'.block w.heap.size (lt_of_block405 B3.out)).trans B3.out
          have R4 : Hid (w4.heap[w.heap.size + 1]? = some (.cells #[.slice none 0 0, .slice none 0 0] 26 (0, 0))) := (hb'.block (w.heap.size + 1) (lt_of_block405 R3.out)).trans R3.out
          have O4 : Hid (w4.ownsRow (w.heap.size + 1 + 1) 9 1 v12 (ks.length + 1) (texts ks ++ [.string key])) := owns_below O3.out hb'
          have I4 : Hid (w4.ownsRow (w.heap.size + 1 + 1) 3 1 v15 ns.length (intsV ns)) := owns_lower ho (by have := lt_of_block405 R3.out; simp only [World.drew] at *; omega)
          have z0 : w4.cell? ⟨w.heap.size, 0, none⟩ = some (.slice a ks.length cap) := by rw [cell_of_row _ _ 0 _ _ _ B4.out]; rfl
          have z1 : w4.cell? ⟨w.heap.size, 1, none⟩ = some (.slice a' ns.length cap') := by rw [cell_of_row _ _ 1 _ _ _ B4.out]; rfl
          clear ho hb hb'
          refine hK.out _ _ ?_ (fun hHeld => ?_)
          · (first | go_keep | ((try dsimp only); go_keep))
          clear hK K
          try simp only [Act.put, List.setIfInBounds_toArray, List.set_cons_zero, List.set_cons_succ]
          clear z0 z1
          refine wpAnyH_ready (rs := [10]) (by kernel_rfl) (by simp) ?_
          refine AllReadyH.cons rfl (fun K hK => ?_) AllReadyH.nil
          go_simp
          obtain ⟨w5, hw5⟩ : ∃ x, w4.alloc (.cells #[.int .i64 fr] 3) = x := ⟨_, rfl⟩
          have hb' : Below w4.heap.size w4 w5 := by rw [← hw5]; exact (Below.refl _ _).alloc (Nat.le_refl _) _
          obtain ⟨by0, hbx⟩ : ∃ x, w4.heap.size = x := ⟨_, rfl⟩
          have Y5 : Hid (w5.heap[by0]? = some (.cells #[.int .i64 fr] 3 (0, 0))) := by show _ = _; rw [← hw5, ← hbx]; exact heap_alloc_last w4 _
          have L5 : Hid (Below w.heap.size w w5) := L4.out.trans (hb'.mono L4.out.size)
          have B5 : Hid (w5.heap[w.heap.size]? = some (.cells #[.slice a ks.length cap, .slice a' ns.length cap'] 26 (0, 0))) := (hb'.block w.heap.size (lt_of_block405 B4.out)).trans B4.out
          have R5 : Hid (w5.heap[w.heap.size + 1]? = some (.cells #[.slice none 0 0, .slice none 0 0] 26 (0, 0))) := (hb'.block (w.heap.size + 1) (lt_of_block405 R4.out)).trans R4.out
          have O5 : Hid (w5.ownsRow (w.heap.size + 1 + 1) 9 1 v12 (ks.length + 1) (texts ks ++ [.string key])) := owns_below O4.out hb'
          have I5 : Hid (w5.ownsRow (w.heap.size + 1 + 1) 3 1 v15 ns.length (intsV ns)) := owns_below I4.out hb'
          have z0 : w5.cell? ⟨w.heap.size, 0, none⟩ = some (.slice a ks.length cap) := by rw [cell_of_row _ _ 0 _ _ _ B5.out]; rfl
          have z1 : w5.cell? ⟨w.heap.size, 1, none⟩ = some (.slice a' ns.length cap') := by rw [cell_of_row _ _ 1 _ _ _ B5.out]; rfl
          rw [hw5, hbx]
          clear hw5 hbx hb'
          refine hK.out _ _ ?_ (fun hHeld => ?_)
          · (first | go_keep | ((try dsimp only); go_keep))
          clear hK K
          try simp only [Act.put, List.setIfInBounds_toArray, List.set_cons_zero, List.set_cons_succ]
          clear z0 z1
          refine wpAnyH_ready (rs := [11]) (by kernel_rfl) (by simp) ?_
          refine AllReadyH.cons rfl (fun K hK => ?_) AllReadyH.nil
          refine step_append_own rfl (.tmp 15) (.tmp 17) 24 rfl (w.heap.size + 1 + 1) 3 i4 (.int .i64 0) 1 8 Tryd.underlying24 hi4 hz4 hs4 hb4 rfl (by decide) v15 ns.length (intsV ns) rfl I5.out ⟨by0, 0, none⟩ 1 1 [.int .i64 fr] rfl rfl (news_cells Y5.out) (one_int fr) (by unfold maxLen; omega) (by omega) (by have := lt_of_block405 R5.out; omega) ?_
          intro v18 w6 hown hgrow hnil
          have hge := own_block_ge I5.out
          have L6 : Hid (Below w.heap.size w w6) := L5.out.trans (below_of_grown hgrow (fun q hq => by have := hge q hq; omega) (by have := L5.out.size; omega))
          have B6 : Hid (w6.heap[w.heap.size]? = some (.cells #[.slice a ks.length cap, .slice a' ns.length cap'] 26 (0, 0))) := (hgrow.block w.heap.size (lt_of_block405 B5.out) (fun h => by have := hge _ h.symm; omega)).trans B5.out
          have R6 : Hid (w6.heap[w.heap.size + 1]? = some (.cells #[.slice none 0 0, .slice none 0 0] 26 (0, 0))) := (hgrow.block (w.heap.size + 1) (lt_of_block405 R5.out) (fun h => by have := hge _ h.symm; omega)).trans R5.out
          have O6 : Hid (w6.ownsRow (w.heap.size + 1 + 1) 9 1 v12 (ks.length + 1) (texts ks ++ [.string key])) := owns_grown O5.out I5.out (by decide) hgrow
          have I6 : Hid (w6.ownsRow (w.heap.size + 1 + 1) 3 1 v18 (ns.length + 1) ((intsV ns) ++ [.int .i64 fr])) := hown
          have z0 : w6.cell? ⟨w.heap.size, 0, none⟩ = some (.slice a ks.length cap) := by rw [cell_of_row _ _ 0 _ _ _ B6.out]; rfl
          have z1 : w6.cell? ⟨w.heap.size, 1, none⟩ = some (.slice a' ns.length cap') := by rw [cell_of_row _ _ 1 _ _ _ B6.out]; rfl
          clear hown hgrow hnil hge
          refine hK.out _ _ ?_ (fun hHeld => ?_)
          · (first | go_keep | ((try dsimp only); go_keep))
          clear hK K
          try simp only [Act.put, List.setIfInBounds_toArray]
          clear z0 z1
          obtain ⟨p12, c12, rfl⟩ := owns_form O6.out
          obtain ⟨p18, c18, rfl⟩ := owns_form I6.out
          have u0 := Go.Joins.unfrozen_of_block R6.out 0
          have u1 := Go.Joins.unfrozen_of_block R6.out 1
          have r0 : w6.cell? ⟨w.heap.size + 1, 0, none⟩ = some (.slice none 0 0) := by rw [cell_of_row _ _ 0 _ _ _ R6.out]; rfl
          have r1 : w6.cell? ⟨w.heap.size + 1, 1, none⟩ = some (.slice none 0 0) := by rw [cell_of_row _ _ 1 _ _ _ R6.out]; rfl
          refine wpAnyH_ready (rs := [12]) (by kernel_rfl) (by simp) ?_
          refine AllReadyH.cons rfl (fun K hK => ?_) AllReadyH.nil
          go_simp
          refine hK.out _ _ ?_ (fun hHeld => ?_)
          · (first | go_keep | ((try dsimp only); go_keep))
          clear hK K
          try simp only [Act.put, List.setIfInBounds_toArray, List.set_cons_zero, List.set_cons_succ]
          refine wpAnyH_ready (rs := [13]) (by kernel_rfl) (by simp) ?_
          refine AllReadyH.cons rfl (fun K hK => ?_) AllReadyH.nil
          go_simp
          refine hK.out _ _ ?_ (fun hHeld => ?_)
          · (first | go_keep | ((try dsimp only); go_keep))
          clear hK K
          try simp only [Act.put, List.setIfInBounds_toArray, List.set_cons_zero, List.set_cons_succ]
          refine wpAnyH_done (by kernel_rfl) ?_ _
          go_wp2
          refine bodyPost_ret (v := .agg #[.slice p12 (ks.length + 1) c12, .slice p18 (ns.length + 1) c18]) (by simp [results, Tryd.results35, go_sem, r0, r1, World.cell?_setCell_same', World.cell?_setCell_other]) rfl ⟨_, rfl, ⟨_, _, rfl, ?_, ?_⟩, ?_⟩
          · refine TextsRow.weak (textsRow_of_owns (n := ks.length + 1) (lo := (w.heap.size + 1 + 1)) ?_ (by simp) HFIT.out) (by omega) (Nat.le_refl _)
            have ho := owns_set (owns_set O6.out (w.heap.size + 1) 0 (.slice p12 (ks.length + 1) c12) (by omega)) (w.heap.size + 1) 1 (.slice p18 (ns.length + 1) c18) (by omega)
            rw [texts_append]; exact ho
          · refine IntsRow.weak (intsRow_of_owns (n := ns.length + 1) (lo := (w.heap.size + 1 + 1)) ?_ (by simp)) (by omega) (Nat.le_refl _)
            have ho := owns_set (owns_set I6.out (w.heap.size + 1) 0 (.slice p12 (ks.length + 1) c12) (by omega)) (w.heap.size + 1) 1 (.slice p18 (ns.length + 1) c18) (by omega)
            rw [intsV_app]; exact ho
          · exact (L6.out.setCell (by simp <;> omega) _).setCell (by simp <;> omega) _
        · skip
          go_simp
          obtain ⟨w4, hw4⟩ : ∃ x, w3.alloc (.cells #[.int .i64 fr] 3) = x := ⟨_, rfl⟩
          have hb' : Below w3.heap.size w3 w4 := by rw [← hw4]; exact (Below.refl _ _).alloc (Nat.le_refl _) _
          obtain ⟨by0, hbx⟩ : ∃ x, w3.heap.size = x := ⟨_, rfl⟩
          have Y4 : Hid (w4.heap[by0]? = some (.cells #[.int .i64 fr] 3 (0, 0))) := by show _ = _; rw [← hw4, ← hbx]; exact heap_alloc_last w3 _
          have L4 : Hid (Below w.heap.size w w4) := L3.out.trans (hb'.mono L3.out.size)
          have B4 : Hid (w4.heap[w.heap.size]? = some (.cells #[.slice a ks.length cap, .slice a' ns.length cap'] 26 (0, 0))) := (hb'.block w.heap.size (lt_of_block405 B3.out)).trans B3.out
          have R4 : Hid (w4.heap[w.heap.size + 1]? = some (.cells #[.slice none 0 0, .slice none 0 0] 26 (0, 0))) := (hb'.block (w.heap.size + 1) (lt_of_block405 R3.out)).trans R3.out
          have O4 : Hid (w4.ownsRow (w.heap.size + 1 + 1) 9 1 v12 (ks.length + 1) (texts ks ++ [.string key])) := owns_below O3.out hb'
          have z0 : w4.cell? ⟨w.heap.size, 0, none⟩ = some (.slice a ks.length cap) := by rw [cell_of_row _ _ 0 _ _ _ B4.out]; rfl
          have z1 : w4.cell? ⟨w.heap.size, 1, none⟩ = some (.slice a' ns.length cap') := by rw [cell_of_row _ _ 1 _ _ _ B4.out]; rfl
          rw [hw4, hbx]
          clear hw4 hbx hb'
          refine hK.out _ _ ?_ (fun hHeld => ?_)
          · (first | go_keep | ((try dsimp only); go_keep))
          clear hK K
          try simp only [Act.put, List.setIfInBounds_toArray, List.set_cons_zero, List.set_cons_succ]
          clear z0 z1
          refine wpAnyH_ready (rs := [8]) (by kernel_rfl) (by simp) ?_
          refine AllReadyH.cons rfl (fun K hK => ?_) AllReadyH.nil
          go_simp
          go_at_call 23
          refine (copyOfI_any _ _ ns (HN.out.below L4.out) hk2).mono ?_
          rintro e w5 ⟨v15, rfl, ho, hb⟩
          have hb' : Below w4.heap.size w4 w5 := hb
          have L5 : Hid (Below w.heap.size w w5) := L4.out.trans (hb'.mono L4.out.size)
          have B5 : Hid (w5.heap[w.heap.size]? = some (.cells #[.slice a ks.length cap, .slice a' ns.length cap'] 26 (0, 0))) := (hb'.block w.heap.size (lt_of_block405 B4.out)).trans B4.out
          have R5 : Hid (w5.heap[w.heap.size + 1]? = some (.cells #[.slice none 0 0, .slice none 0 0] 26 (0, 0))) := (hb'.block (w.heap.size + 1) (lt_of_block405 R4.out)).trans R4.out
          have O5 : Hid (w5.ownsRow (w.heap.size + 1 + 1) 9 1 v12 (ks.length + 1) (texts ks ++ [.string key])) := owns_below O4.out hb'
          have Y5 : Hid (w5.heap[by0]? = some (.cells #[.int .i64 fr] 3 (0, 0))) := (hb'.block by0 (lt_of_block405 Y4.out)).trans Y4.out
          have I5 : Hid (w5.ownsRow (w.heap.size + 1 + 1) 3 1 v15 ns.length (intsV ns)) := owns_lower ho (by have := lt_of_block405 R4.out; simp only [World.drew] at *; omega)
          have z0 : w5.cell? ⟨w.heap.size, 0, none⟩ = some (.slice a ks.length cap) := by rw [cell_of_row _ _ 0 _ _ _ B5.out]; rfl
          have z1 : w5.cell? ⟨w.heap.size, 1, none⟩ = some (.slice a' ns.length cap') := by rw [cell_of_row _ _ 1 _ _ _ B5.out]; rfl
          clear ho hb hb'
          refine hK.out _ _ ?_ (fun hHeld => ?_)
          · (first | go_keep | ((try dsimp only); go_keep))
          clear hK K
          try simp only [Act.put, List.setIfInBounds_toArray, List.set_cons_zero, List.set_cons_succ]
          clear z0 z1
          refine wpAnyH_ready (rs := [11]) (by kernel_rfl) (by simp) ?_
          refine AllReadyH.cons rfl (fun K hK => ?_) AllReadyH.nil
          refine step_append_own rfl (.tmp 15) (.tmp 17) 24 rfl (w.heap.size + 1 + 1) 3 i4 (.int .i64 0) 1 8 Tryd.underlying24 hi4 hz4 hs4 hb4 rfl (by decide) v15 ns.length (intsV ns) rfl I5.out ⟨by0, 0, none⟩ 1 1 [.int .i64 fr] rfl rfl (news_cells Y5.out) (one_int fr) (by unfold maxLen; omega) (by omega) (by have := lt_of_block405 R5.out; omega) ?_
          intro v18 w6 hown hgrow hnil
          have hge := own_block_ge I5.out
          have L6 : Hid (Below w.heap.size w w6) := L5.out.trans (below_of_grown hgrow (fun q hq => by have := hge q hq; omega) (by have := L5.out.size; omega))
          have B6 : Hid (w6.heap[w.heap.size]? = some (.cells #[.slice a ks.length cap, .slice a' ns.length cap'] 26 (0, 0))) := (hgrow.block w.heap.size (lt_of_block405 B5.out) (fun h => by have := hge _ h.symm; omega)).trans B5.out
          have R6 : Hid (w6.heap[w.heap.size + 1]? = some (.cells #[.slice none 0 0, .slice none 0 0] 26 (0, 0))) := (hgrow.block (w.heap.size + 1) (lt_of_block405 R5.out) (fun h => by have := hge _ h.symm; omega)).trans R5.out
          have O6 : Hid (w6.ownsRow (w.heap.size + 1 + 1) 9 1 v12 (ks.length + 1) (texts ks ++ [.string key])) := owns_grown O5.out I5.out (by decide) hgrow
          have I6 : Hid (w6.ownsRow (w.heap.size + 1 + 1) 3 1 v18 (ns.length + 1) ((intsV ns) ++ [.int .i64 fr])) := hown
          have z0 : w6.cell? ⟨w.heap.size, 0, none⟩ = some (.slice a ks.length cap) := by rw [cell_of_row _ _ 0 _ _ _ B6.out]; rfl
          have z1 : w6.cell? ⟨w.heap.size, 1, none⟩ = some (.slice a' ns.length cap') := by rw [cell_of_row _ _ 1 _ _ _ B6.out]; rfl
          clear hown hgrow hnil hge
          refine hK.out _ _ ?_ (fun hHeld => ?_)
          · (first | go_keep | ((try dsimp only); go_keep))
          clear hK K
          try simp only [Act.put, List.setIfInBounds_toArray]
          clear z0 z1
          obtain ⟨p12, c12, rfl⟩ := owns_form O6.out
          obtain ⟨p18, c18, rfl⟩ := owns_form I6.out
          have u0 := Go.Joins.unfrozen_of_block R6.out 0
          have u1 := Go.Joins.unfrozen_of_block R6.out 1
          have r0 : w6.cell? ⟨w.heap.size + 1, 0, none⟩ = some (.slice none 0 0) := by rw [cell_of_row _ _ 0 _ _ _ R6.out]; rfl
          have r1 : w6.cell? ⟨w.heap.size + 1, 1, none⟩ = some (.slice none 0 0) := by rw [cell_of_row _ _ 1 _ _ _ R6.out]; rfl
          refine wpAnyH_ready (rs := [12]) (by kernel_rfl) (by simp) ?_
          refine AllReadyH.cons rfl (fun K hK => ?_) AllReadyH.nil
          go_simp
          refine hK.out _ _ ?_ (fun hHeld => ?_)
          · (first | go_keep | ((try dsimp only); go_keep))
          clear hK K
          try simp only [Act.put, List.setIfInBounds_toArray, List.set_cons_zero, List.set_cons_succ]
          refine wpAnyH_ready (rs := [13]) (by kernel_rfl) (by simp) ?_
          refine AllReadyH.cons rfl (fun K hK => ?_) AllReadyH.nil
          go_simp
          refine hK.out _ _ ?_ (fun hHeld => ?_)
          · (first | go_keep | ((try dsimp only); go_keep))
          clear hK K
          try simp only [Act.put, List.setIfInBounds_toArray, List.set_cons_zero, List.set_cons_succ]
          refine wpAnyH_done (by kernel_rfl) ?_ _
          go_wp2
          refine bodyPost_ret (v := .agg #[.slice p12 (ks.length + 1) c12, .slice p18 (ns.length + 1) c18]) (by simp [results, Tryd.results35, go_sem, r0, r1, World.cell?_setCell_same', World.cell?_setCell_other]) rfl ⟨_, rfl, ⟨_, _, rfl, ?_, ?_⟩, ?_⟩
          · refine TextsRow.weak (textsRow_of_owns (n := ks.length + 1) (lo := (w.heap.size + 1 + 1)) ?_ (by simp) HFIT.out) (by omega) (Nat.le_refl _)
            have ho := owns_set (owns_set O6.out (w.heap.size + 1) 0 (.slice p12 (ks.length + 1) c12) (by omega)) (w.heap.size + 1) 1 (.slice p18 (ns.length + 1) c18) (by omega)
            rw [texts_append]; exact ho
          · refine IntsRow.weak (intsRow_of_owns (n := ns.length + 1) (lo := (w.heap.size + 1 + 1)) ?_ (by simp)) (by omega) (Nat.le_refl _)
            have ho := owns_set (owns_set I6.out (w.heap.size + 1) 0 (.slice p12 (ks.length + 1) c12) (by omega)) (w.heap.size + 1) 1 (.slice p18 (ns.length + 1) c18) (by omega)
            rw [intsV_app]; exact ho
          · exact (L6.out.setCell (by simp <;> omega) _).setCell (by simp <;> omega) _
      · skip
        go_simp
        obtain ⟨w3, hw3⟩ : ∃ x, w2.alloc (.cells #[.int .i64 fr] 3) = x := ⟨_, rfl⟩
        have hb' : Below w2.heap.size w2 w3 := by rw [← hw3]; exact (Below.refl _ _).alloc (Nat.le_refl _) _
        obtain ⟨by0, hbx⟩ : ∃ x, w2.heap.size = x := ⟨_, rfl⟩
        have Y3 : Hid (w3.heap[by0]? = some (.cells #[.int .i64 fr] 3 (0, 0))) := by show _ = _; rw [← hw3, ← hbx]; exact heap_alloc_last w2 _
        have L3 : Hid (Below w.heap.size w w3) := L2.out.trans (hb'.mono L2.out.size)
        have B3 : Hid (w3.heap[w.heap.size]? = some (.cells #[.slice a ks.length cap, .slice a' ns.length cap'] 26 (0, 0))) := (hb'.block w.heap.size (lt_of_block405 B2.out)).trans B2.out
        have R3 : Hid (w3.heap[w.heap.size + 1]? = some (.cells #[.slice none 0 0, .slice none 0 0] 26 (0, 0))) := (hb'.block (w.heap.size + 1) (lt_of_block405 R2.out)).trans R2.out
        have O3 : Hid (w3.ownsRow (w.heap.size + 1 + 1) 9 1 v9 ks.length (texts ks)) := owns_below O2.out hb'
        have X3 : Hid (w3.heap[bx]? = some (.cells #[.string key] 9 (0, 0))) := (hb'.block bx (lt_of_block405 X2.out)).trans X2.out
        have z0 : w3.cell? ⟨w.heap.size, 0, none⟩ = some (.slice a ks.length cap) := by rw [cell_of_row _ _ 0 _ _ _ B3.out]; rfl
        have z1 : w3.cell? ⟨w.heap.size, 1, none⟩ = some (.slice a' ns.length cap') := by rw [cell_of_row _ _ 1 _ _ _ B3.out]; rfl
        rw [hw3, hbx]
        clear hw3 hbx hb'
        refine hK.out _ _ ?_ (fun hHeld => ?_)
        · (first | go_keep | ((try dsimp only); go_keep))
        clear hK K
        try simp only [Act.put, List.setIfInBounds_toArray, List.set_cons_zero, List.set_cons_succ]
        clear z0 z1
        refine wpAnyH_ready (rs := [5]) (by kernel_rfl) (by simp) ?_
        refine AllReadyH.cons rfl (fun K hK => ?_) AllReadyH.nil
        refine step_append_own rfl (.tmp 9) (.tmp 11) 23 rfl (w.heap.size + 1 + 1) 9 i3 (.string ⟨#[]⟩) 1 16 Tryd.underlying23 hi3 hz3 hs3 hb3 rfl (by decide) v9 ks.length (texts ks) rfl O3.out ⟨bx, 0, none⟩ 1 1 [.string key] rfl rfl (news_cells X3.out) (one_text key) (by unfold maxLen; omega) (by omega) (by have := lt_of_block405 R3.out; omega) ?_
        intro v12 w4 hown hgrow hnil
        have hge := own_block_ge O3.out
        have L4 : Hid (Below w.heap.size w w4) := L3.out.trans (below_of_grown hgrow (fun q hq => by have := hge q hq; omega) (by have := L3.out.size; omega))
        have B4 : Hid (w4.heap[w.heap.size]? = some (.cells #[.slice a ks.length cap, .slice a' ns.length cap'] 26 (0, 0))) := (hgrow.block w.heap.size (lt_of_block405 B3.out) (fun h => by have := hge _ h.symm; omega)).trans B3.out
        have R4 : Hid (w4.heap[w.heap.size + 1]? = some (.cells #[.slice none 0 0, .slice none 0 0] 26 (0, 0))) := (hgrow.block (w.heap.size + 1) (lt_of_block405 R3.out) (fun h => by have := hge _ h.symm; omega)).trans R3.out
        have Y4 : Hid (w4.heap[by0]? = some (.cells #[.int .i64 fr] 3 (0, 0))) := (hgrow.block by0 (lt_of_block405 Y3.out) (row_ne_block O3.out Y3.out (by decide))).trans Y3.out
        have O4 : Hid (w4.ownsRow (w.heap.size + 1 + 1) 9 1 v12 (ks.length + 1) ((texts ks) ++ [.string key])) := hown
        have z0 : w4.cell? ⟨w.heap.size, 0, none⟩ = some (.slice a ks.length cap) := by rw [cell_of_row _ _ 0 _ _ _ B4.out]; rfl
        have z1 : w4.cell? ⟨w.heap.size, 1, none⟩ = some (.slice a' ns.length cap') := by rw [cell_of_row _ _ 1 _ _ _ B4.out]; rfl
        clear hown hgrow hnil hge
        refine hK.out _ _ ?_ (fun hHeld => ?_)
        · (first | go_keep | ((try dsimp only); go_keep))
        clear hK K
        try simp only [Act.put, List.setIfInBounds_toArray]
        clear z0 z1
        refine wpAnyH_ready (rs := [8]) (by kernel_rfl) (by simp) ?_
        refine AllReadyH.cons rfl (fun K hK => ?_) AllReadyH.nil
        go_simp
        go_at_call 23
        refine (copyOfI_any _ _ ns (HN.out.below L4.out) hk2).mono ?_
        rintro e w5 ⟨v15, rfl, ho, hb⟩
        have hb' : Below w4.heap.size w4 w5 := hb
        have L5 : Hid (Below w.heap.size w w5) := L4.out.trans (hb'.mono L4.out.size)
        have B5 : Hid (w5.heap[w.heap.size]? = some (.cells #[.slice a ks.length cap, .slice a' ns.length cap'] 26 (0, 0))) := (hb'.block w.heap.size (lt_of_block405 B4.out)).trans B4.out
        have R5 : Hid (w5.heap[w.heap.size + 1]? = some (.cells #[.slice none 0 0, .slice none 0 0] 26 (0, 0))) := (hb'.block (w.heap.size + 1) (lt_of_block405 R4.out)).trans R4.out
        have O5 : Hid (w5.ownsRow (w.heap.size + 1 + 1) 9 1 v12 (ks.length + 1) (texts ks ++ [.string key])) := owns_below O4.out hb'
        have Y5 : Hid (w5.heap[by0]? = some (.cells #[.int .i64 fr] 3 (0, 0))) := (hb'.block by0 (lt_of_block405 Y4.out)).trans Y4.out
        have I5 : Hid (w5.ownsRow (w.heap.size + 1 + 1) 3 1 v15 ns.length (intsV ns)) := owns_lower ho (by have := lt_of_block405 R4.out; simp only [World.drew] at *; omega)
        have z0 : w5.cell? ⟨w.heap.size, 0, none⟩ = some (.slice a ks.length cap) := by rw [cell_of_row _ _ 0 _ _ _ B5.out]; rfl
        have z1 : w5.cell? ⟨w.heap.size, 1, none⟩ = some (.slice a' ns.length cap') := by rw [cell_of_row _ _ 1 _ _ _ B5.out]; rfl
        clear ho hb hb'
        refine hK.out _ _ ?_ (fun hHeld => ?_)
        · (first | go_keep | ((try dsimp only); go_keep))
        clear hK K
        try simp only [Act.put, List.setIfInBounds_toArray, List.set_cons_zero, List.set_cons_succ]
        clear z0 z1
        refine wpAnyH_ready (rs := [11]) (by kernel_rfl) (by simp) ?_
        refine AllReadyH.cons rfl (fun K hK => ?_) AllReadyH.nil
        refine step_append_own rfl (.tmp 15) (.tmp 17) 24 rfl (w.heap.size + 1 + 1) 3 i4 (.int .i64 0) 1 8 Tryd.underlying24 hi4 hz4 hs4 hb4 rfl (by decide) v15 ns.length (intsV ns) rfl I5.out ⟨by0, 0, none⟩ 1 1 [.int .i64 fr] rfl rfl (news_cells Y5.out) (one_int fr) (by unfold maxLen; omega) (by omega) (by have := lt_of_block405 R5.out; omega) ?_
        intro v18 w6 hown hgrow hnil
        have hge := own_block_ge I5.out
        have L6 : Hid (Below w.heap.size w w6) := L5.out.trans (below_of_grown hgrow (fun q hq => by have := hge q hq; omega) (by have := L5.out.size; omega))
        have B6 : Hid (w6.heap[w.heap.size]? = some (.cells #[.slice a ks.length cap, .slice a' ns.length cap'] 26 (0, 0))) := (hgrow.block w.heap.size (lt_of_block405 B5.out) (fun h => by have := hge _ h.symm; omega)).trans B5.out
        have R6 : Hid (w6.heap[w.heap.size + 1]? = some (.cells #[.slice none 0 0, .slice none 0 0] 26 (0, 0))) := (hgrow.block (w.heap.size + 1) (lt_of_block405 R5.out) (fun h => by have := hge _ h.symm; omega)).trans R5.out
        have O6 : Hid (w6.ownsRow (w.heap.size + 1 + 1) 9 1 v12 (ks.length + 1) (texts ks ++ [.string key])) := owns_grown O5.out I5.out (by decide) hgrow
        have I6 : Hid (w6.ownsRow (w.heap.size + 1 + 1) 3 1 v18 (ns.length + 1) ((intsV ns) ++ [.int .i64 fr])) := hown
        have z0 : w6.cell? ⟨w.heap.size, 0, none⟩ = some (.slice a ks.length cap) := by rw [cell_of_row _ _ 0 _ _ _ B6.out]; rfl
        have z1 : w6.cell? ⟨w.heap.size, 1, none⟩ = some (.slice a' ns.length cap') := by rw [cell_of_row _ _ 1 _ _ _ B6.out]; rfl
        clear hown hgrow hnil hge
        refine hK.out _ _ ?_ (fun hHeld => ?_)
        · (first | go_keep | ((try dsimp only); go_keep))
        clear hK K
        try simp only [Act.put, List.setIfInBounds_toArray]
        clear z0 z1
        obtain ⟨p12, c12, rfl⟩ := owns_form O6.out
        obtain ⟨p18, c18, rfl⟩ := owns_form I6.out
        have u0 := Go.Joins.unfrozen_of_block R6.out 0
        have u1 := Go.Joins.unfrozen_of_block R6.out 1
        have r0 : w6.cell? ⟨w.heap.size + 1, 0, none⟩ = some (.slice none 0 0) := by rw [cell_of_row _ _ 0 _ _ _ R6.out]; rfl
        have r1 : w6.cell? ⟨w.heap.size + 1, 1, none⟩ = some (.slice none 0 0) := by rw [cell_of_row _ _ 1 _ _ _ R6.out]; rfl
        refine wpAnyH_ready (rs := [12]) (by kernel_rfl) (by simp) ?_
        refine AllReadyH.cons rfl (fun K hK => ?_) AllReadyH.nil
        go_simp
        refine hK.out _ _ ?_ (fun hHeld => ?_)
        · (first | go_keep | ((try dsimp only); go_keep))
        clear hK K
        try simp only [Act.put, List.setIfInBounds_toArray, List.set_cons_zero, List.set_cons_succ]
        refine wpAnyH_ready (rs := [13]) (by kernel_rfl) (by simp) ?_
        refine AllReadyH.cons rfl (fun K hK => ?_) AllReadyH.nil
        go_simp
        refine hK.out _ _ ?_ (fun hHeld => ?_)
        · (first | go_keep | ((try dsimp only); go_keep))
        clear hK K
        try simp only [Act.put, List.setIfInBounds_toArray, List.set_cons_zero, List.set_cons_succ]
        refine wpAnyH_done (by kernel_rfl) ?_ _
        go_wp2
        refine bodyPost_ret (v := .agg #[.slice p12 (ks.length + 1) c12, .slice p18 (ns.length + 1) c18]) (by simp [results, Tryd.results35, go_sem, r0, r1, World.cell?_setCell_same', World.cell?_setCell_other]) rfl ⟨_, rfl, ⟨_, _, rfl, ?_, ?_⟩, ?_⟩
        · refine TextsRow.weak (textsRow_of_owns (n := ks.length + 1) (lo := (w.heap.size + 1 + 1)) ?_ (by simp) HFIT.out) (by omega) (Nat.le_refl _)
          have ho := owns_set (owns_set O6.out (w.heap.size + 1) 0 (.slice p12 (ks.length + 1) c12) (by omega)) (w.heap.size + 1) 1 (.slice p18 (ns.length + 1) c18) (by omega)
          rw [texts_append]; exact ho
        · refine IntsRow.weak (intsRow_of_owns (n := ns.length + 1) (lo := (w.heap.size + 1 + 1)) ?_ (by simp)) (by omega) (Nat.le_refl _)
          have ho := owns_set (owns_set I6.out (w.heap.size + 1) 0 (.slice p12 (ks.length + 1) c12) (by omega)) (w.heap.size + 1) 1 (.slice p18 (ns.length + 1) c18) (by omega)
          rw [intsV_app]; exact ho
        · exact (L6.out.setCell (by simp <;> omega) _).setCell (by simp <;> omega) _
    · skip
      go_simp
      obtain ⟨w2, hw2⟩ : ∃ x, w1.alloc (.cells #[.int .i64 fr] 3) = x := ⟨_, rfl⟩
      have hb' : Below w1.heap.size w1 w2 := by rw [← hw2]; exact (Below.refl _ _).alloc (Nat.le_refl _) _
      obtain ⟨by0, hbx⟩ : ∃ x, w1.heap.size = x := ⟨_, rfl⟩
      have Y2 : Hid (w2.heap[by0]? = some (.cells #[.int .i64 fr] 3 (0, 0))) := by show _ = _; rw [← hw2, ← hbx]; exact heap_alloc_last w1 _
      have L2 : Hid (Below w.heap.size w w2) := L1.out.trans (hb'.mono L1.out.size)
      have B2 : Hid (w2.heap[w.heap.size]? = some (.cells #[.slice a ks.length cap, .slice a' ns.length cap'] 26 (0, 0))) := (hb'.block w.heap.size (lt_of_block405 B1.out)).trans B1.out
      have R2 : Hid (w2.heap[w.heap.size + 1]? = some (.cells #[.slice none 0 0, .slice none 0 0] 26 (0, 0))) := (hb'.block (w.heap.size + 1) (lt_of_block405 R1.out)).trans R1.out
      have X2 : Hid (w2.heap[bx]? = some (.cells #[.string key] 9 (0, 0))) := (hb'.block bx (lt_of_block405 X1.out)).trans X1.out
      have z0 : w2.cell? ⟨w.heap.size, 0, none⟩ = some (.slice a ks.length cap) := by rw [cell_of_row _ _ 0 _ _ _ B2.out]; rfl
      have z1 : w2.cell? ⟨w.heap.size, 1, none⟩ = some (.slice a' ns.length cap') := by rw [cell_of_row _ _ 1 _ _ _ B2.out]; rfl
      rw [hw2, hbx]
      clear hw2 hbx hb'
      refine hK.out _ _ ?_ (fun hHeld => ?_)
      · (first | go_keep | ((try dsimp only); go_keep))
      clear hK K
      try simp only [Act.put, List.setIfInBounds_toArray, List.set_cons_zero, List.set_cons_succ]
      clear z0 z1
      refine wpAnyH_ready (rs := [2]) (by kernel_rfl) (by simp) ?_
      refine AllReadyH.cons rfl (fun K hK => ?_) AllReadyH.nil
      go_simp
      go_at_call 22
      refine (copyOfT_any _ _ ks (HA.out.below L2.out) hk1).mono ?_
      rintro e w3 ⟨v9, rfl, ho, hb⟩
      have hb' : Below w2.heap.size w2 w3 := hb
      have L3 : Hid (Below w.heap.size w w3) := L2.out.trans (hb'.mono L2.out.size)
      have B3 : Hid (w3.heap[w.heap.size]? = some (.cells #[.slice a ks.length cap, .slice a' ns.length cap'] 26 (0, 0))) := (hb'.block w.heap.size (lt_of_block405 B2.out)).trans B2.out
      have R3 : Hid (w3.heap[w.heap.size + 1]? = some (.cells #[.slice none 0 0, .slice none 0 0] 26 (0, 0))) := (hb'.block (w.heap.size + 1) (lt_of_block405 R2.out)).trans R2.out
      have X3 : Hid (w3.heap[bx]? = some (.cells #[.string key] 9 (0, 0))) := (hb'.block bx (lt_of_block405 X2.out)).trans X2.out
      have Y3 : Hid (w3.heap[by0]? = some (.cells #[.int .i64 fr] 3 (0, 0))) := (hb'.block by0 (lt_of_block405 Y2.out)).trans Y2.out
      have O3 : Hid (w3.ownsRow (w.heap.size + 1 + 1) 9 1 v9 ks.length (texts ks)) := owns_lower ho (by have := lt_of_block405 R2.out; simp only [World.drew] at *; omega)
      have z0 : w3.cell? ⟨w.heap.size, 0, none⟩ = some (.slice a ks.length cap) := by rw [cell_of_row _ _ 0 _ _ _ B3.out]; rfl
      have z1 : w3.cell? ⟨w.heap.size, 1, none⟩ = some (.slice a' ns.length cap') := by rw [cell_of_row _ _ 1 _ _ _ B3.out]; rfl
      clear ho hb hb'
      refine hK.out _ _ ?_ (fun hHeld => ?_)
      · (first | go_keep | ((try dsimp only); go_keep))
      clear hK K
      try simp only [Act.put, List.setIfInBounds_toArray, List.set_cons_zero, List.set_cons_succ]
      clear z0 z1
      refine wpAnyH_ready (rs := [5]) (by kernel_rfl) (by simp) ?_
      refine AllReadyH.cons rfl (fun K hK => ?_) AllReadyH.nil
      refine step_append_own rfl (.tmp 9) (.tmp 11) 23 rfl (w.heap.size + 1 + 1) 9 i3 (.string ⟨#[]⟩) 1 16 Tryd.underlying23 hi3 hz3 hs3 hb3 rfl (by decide) v9 ks.length (texts ks) rfl O3.out ⟨bx, 0, none⟩ 1 1 [.string key] rfl rfl (news_cells X3.out) (one_text key) (by unfold maxLen; omega) (by omega) (by have := lt_of_block405 R3.out; omega) ?_
      intro v12 w4 hown hgrow hnil
      have hge := own_block_ge O3.out
      have L4 : Hid (Below w.heap.size w w4) := L3.out.trans (below_of_grown hgrow (fun q hq => by have := hge q hq; omega) (by have := L3.out.size; omega))
      have B4 : Hid (w4.heap[w.heap.size]? = some (.cells #[.slice a ks.length cap, .slice a' ns.length cap'] 26 (0, 0))) := (hgrow.block w.heap.size (lt_of_block405 B3.out) (fun h => by have := hge _ h.symm; omega)).trans B3.out
      have R4 : Hid (w4.heap[w.heap.size + 1]? = some (.cells #[.slice none 0 0, .slice none 0 0] 26 (0, 0))) := (hgrow.block (w.heap.size + 1) (lt_of_block405 R3.out) (fun h => by have := hge _ h.symm; omega)).trans R3.out
      have Y4 : Hid (w4.heap[by0]? = some (.cells #[.int .i64 fr] 3 (0, 0))) := (hgrow.block by0 (lt_of_block405 Y3.out) (row_ne_block O3.out Y3.out (by decide))).trans Y3.out
      have O4 : Hid (w4.ownsRow (w.heap.size + 1 + 1) 9 1 v12 (ks.length + 1) ((texts ks) ++ [.string key])) := hown
      have z0 : w4.cell? ⟨w.heap.size, 0, none⟩ = some (.slice a ks.length cap) := by rw [cell_of_row _ _ 0 _ _ _ B4.out]; rfl
      have z1 : w4.cell? ⟨w.heap.size, 1, none⟩ = some (.slice a' ns.length cap') := by rw [cell_of_row _ _ 1 _ _ _ B4.out]; rfl
      clear hown hgrow hnil hge
      refine hK.out _ _ ?_ (fun hHeld => ?_)
      · (first | go_keep | ((try dsimp only); go_keep))
      clear hK K
      try simp only [Act.put, List.setIfInBounds_toArray]
      clear z0 z1
      refine wpAnyH_ready (rs := [8]) (by kernel_rfl) (by simp) ?_
      refine AllReadyH.cons rfl (fun K hK => ?_) AllReadyH.nil
      go_simp
      go_at_call 23
      refine (copyOfI_any _ _ ns (HN.out.below L4.out) hk2).mono ?_
      rintro e w5 ⟨v15, rfl, ho, hb⟩
      have hb' : Below w4.heap.size w4 w5 := hb
      have L5 : Hid (Below w.heap.size w w5) := L4.out.trans (hb'.mono L4.out.size)
      have B5 : Hid (w5.heap[w.heap.size]? = some (.cells #[.slice a ks.length cap, .slice a' ns.length cap'] 26 (0, 0))) := (hb'.block w.heap.size (lt_of_block405 B4.out)).trans B4.out
      have R5 : Hid (w5.heap[w.heap.size + 1]? = some (.cells #[.slice none 0 0, .slice none 0 0] 26 (0, 0))) := (hb'.block (w.heap.size + 1) (lt_of_block405 R4.out)).trans R4.out
      have O5 : Hid (w5.ownsRow (w.heap.size + 1 + 1) 9 1 v12 (ks.length + 1) (texts ks ++ [.string key])) := owns_below O4.out hb'
      have Y5 : Hid (w5.heap[by0]? = some (.cells #[.int .i64 fr] 3 (0, 0))) := (hb'.block by0 (lt_of_block405 Y4.out)).trans Y4.out
      have I5 : Hid (w5.ownsRow (w.heap.size + 1 + 1) 3 1 v15 ns.length (intsV ns)) := owns_lower ho (by have := lt_of_block405 R4.out; simp only [World.drew] at *; omega)
      have z0 : w5.cell? ⟨w.heap.size, 0, none⟩ = some (.slice a ks.length cap) := by rw [cell_of_row _ _ 0 _ _ _ B5.out]; rfl
      have z1 : w5.cell? ⟨w.heap.size, 1, none⟩ = some (.slice a' ns.length cap') := by rw [cell_of_row _ _ 1 _ _ _ B5.out]; rfl
      clear ho hb hb'
      refine hK.out _ _ ?_ (fun hHeld => ?_)
      · (first | go_keep | ((try dsimp only); go_keep))
      clear hK K
      try simp only [Act.put, List.setIfInBounds_toArray, List.set_cons_zero, List.set_cons_succ]
      clear z0 z1
      refine wpAnyH_ready (rs := [11]) (by kernel_rfl) (by simp) ?_
      refine AllReadyH.cons rfl (fun K hK => ?_) AllReadyH.nil
      refine step_append_own rfl (.tmp 15) (.tmp 17) 24 rfl (w.heap.size + 1 + 1) 3 i4 (.int .i64 0) 1 8 Tryd.underlying24 hi4 hz4 hs4 hb4 rfl (by decide) v15 ns.length (intsV ns) rfl I5.out ⟨by0, 0, none⟩ 1 1 [.int .i64 fr] rfl rfl (news_cells Y5.out) (one_int fr) (by unfold maxLen; omega) (by omega) (by have := lt_of_block405 R5.out; omega) ?_
      intro v18 w6 hown hgrow hnil
      have hge := own_block_ge I5.out
      have L6 : Hid (Below w.heap.size w w6) := L5.out.trans (below_of_grown hgrow (fun q hq => by have := hge q hq; omega) (by have := L5.out.size; omega))
      have B6 : Hid (w6.heap[w.heap.size]? = some (.cells #[.slice a ks.length cap, .slice a' ns.length cap'] 26 (0, 0))) := (hgrow.block w.heap.size (lt_of_block405 B5.out) (fun h => by have := hge _ h.symm; omega)).trans B5.out
      have R6 : Hid (w6.heap[w.heap.size + 1]? = some (.cells #[.slice none 0 0, .slice none 0 0] 26 (0, 0))) := (hgrow.block (w.heap.size + 1) (lt_of_block405 R5.out) (fun h => by have := hge _ h.symm; omega)).trans R5.out
      have O6 : Hid (w6.ownsRow (w.heap.size + 1 + 1) 9 1 v12 (ks.length + 1) (texts ks ++ [.string key])) := owns_grown O5.out I5.out (by decide) hgrow
      have I6 : Hid (w6.ownsRow (w.heap.size + 1 + 1) 3 1 v18 (ns.length + 1) ((intsV ns) ++ [.int .i64 fr])) := hown
      have z0 : w6.cell? ⟨w.heap.size, 0, none⟩ = some (.slice a ks.length cap) := by rw [cell_of_row _ _ 0 _ _ _ B6.out]; rfl
      have z1 : w6.cell? ⟨w.heap.size, 1, none⟩ = some (.slice a' ns.length cap') := by rw [cell_of_row _ _ 1 _ _ _ B6.out]; rfl
      clear hown hgrow hnil hge
      refine hK.out _ _ ?_ (fun hHeld => ?_)
      · (first | go_keep | ((try dsimp only); go_keep))
      clear hK K
      try simp only [Act.put, List.setIfInBounds_toArray]
      clear z0 z1
      obtain ⟨p12, c12, rfl⟩ := owns_form O6.out
      obtain ⟨p18, c18, rfl⟩ := owns_form I6.out
      have u0 := Go.Joins.unfrozen_of_block R6.out 0
      have u1 := Go.Joins.unfrozen_of_block R6.out 1
      have r0 : w6.cell? ⟨w.heap.size + 1, 0, none⟩ = some (.slice none 0 0) := by rw [cell_of_row _ _ 0 _ _ _ R6.out]; rfl
      have r1 : w6.cell? ⟨w.heap.size + 1, 1, none⟩ = some (.slice none 0 0) := by rw [cell_of_row _ _ 1 _ _ _ R6.out]; rfl
      refine wpAnyH_ready (rs := [12]) (by kernel_rfl) (by simp) ?_
      refine AllReadyH.cons rfl (fun K hK => ?_) AllReadyH.nil
      go_simp
      refine hK.out _ _ ?_ (fun hHeld => ?_)
      · (first | go_keep | ((try dsimp only); go_keep))
      clear hK K
      try simp only [Act.put, List.setIfInBounds_toArray, List.set_cons_zero, List.set_cons_succ]
      refine wpAnyH_ready (rs := [13]) (by kernel_rfl) (by simp) ?_
      refine AllReadyH.cons rfl (fun K hK => ?_) AllReadyH.nil
      go_simp
      refine hK.out _ _ ?_ (fun hHeld => ?_)
      · (first | go_keep | ((try dsimp only); go_keep))
      clear hK K
      try simp only [Act.put, List.setIfInBounds_toArray, List.set_cons_zero, List.set_cons_succ]
      refine wpAnyH_done (by kernel_rfl) ?_ _
      go_wp2
      refine bodyPost_ret (v := .agg #[.slice p12 (ks.length + 1) c12, .slice p18 (ns.length + 1) c18]) (by simp [results, Tryd.results35, go_sem, r0, r1, World.cell?_setCell_same', World.cell?_setCell_other]) rfl ⟨_, rfl, ⟨_, _, rfl, ?_, ?_⟩, ?_⟩
      · refine TextsRow.weak (textsRow_of_owns (n := ks.length + 1) (lo := (w.heap.size + 1 + 1)) ?_ (by simp) HFIT.out) (by omega) (Nat.le_refl _)
        have ho := owns_set (owns_set O6.out (w.heap.size + 1) 0 (.slice p12 (ks.length + 1) c12) (by omega)) (w.heap.size + 1) 1 (.slice p18 (ns.length + 1) c18) (by omega)
        rw [texts_append]; exact ho
      · refine IntsRow.weak (intsRow_of_owns (n := ns.length + 1) (lo := (w.heap.size + 1 + 1)) ?_ (by simp)) (by omega) (Nat.le_refl _)
        have ho := owns_set (owns_set I6.out (w.heap.size + 1) 0 (.slice p12 (ks.length + 1) c12) (by omega)) (w.heap.size + 1) 1 (.slice p18 (ns.length + 1) c18) (by omega)
        rw [intsV_app]; exact ho
      · exact (L6.out.setCell (by simp <;> omega) _).setCell (by simp <;> omega) _
  · skip
    go_simp
    obtain ⟨w1, hw1⟩ : ∃ x, w0.alloc (.cells #[.int .i64 fr] 3) = x := ⟨_, rfl⟩
    have hb' : Below w0.heap.size w0 w1 := by rw [← hw1]; exact (Below.refl _ _).alloc (Nat.le_refl _) _
    obtain ⟨by0, hbx⟩ : ∃ x, w0.heap.size = x := ⟨_, rfl⟩
    have Y1 : Hid (w1.heap[by0]? = some (.cells #[.int .i64 fr] 3 (0, 0))) := by show _ = _; rw [← hw1, ← hbx]; exact heap_alloc_last w0 _
    have L1 : Hid (Below w.heap.size w w1) := L0.out.trans (hb'.mono L0.out.size)
    have B1 : Hid (w1.heap[w.heap.size]? = some (.cells #[.slice a ks.length cap, .slice a' ns.length cap'] 26 (0, 0))) := (hb'.block w.heap.size (lt_of_block405 B0.out)).trans B0.out
    have R1 : Hid (w1.heap[w.heap.size + 1]? = some (.cells #[.slice none 0 0, .slice none 0 0] 26 (0, 0))) := (hb'.block (w.heap.size + 1) (lt_of_block405 R0.out)).trans R0.out
    have z0 : w1.cell? ⟨w.heap.size, 0, none⟩ = some (.slice a ks.length cap) := by rw [cell_of_row _ _ 0 _ _ _ B1.out]; rfl
    have z1 : w1.cell? ⟨w.heap.size, 1, none⟩ = some (.slice a' ns.length cap') := by rw [cell_of_row _ _ 1 _ _ _ B1.out]; rfl
    rw [hw1, hbx]
    clear hw1 hbx hb'
    refine hK.out _ _ ?_ (fun hHeld => ?_)
    · (first | go_keep | ((try dsimp only); go_keep))
    clear hK K
    try simp only [Act.put, List.setIfInBounds_toArray, List.set_cons_zero, List.set_cons_succ]
    clear z0 z1
    refine wpAnyH_ready (rs := [2, 4]) (by kernel_rfl) (by simp) ?_
    refine AllReadyH.cons rfl (fun K hK => ?_) (AllReadyH.cons rfl (fun K hK => ?_) AllReadyH.nil)
    · skip
      go_simp
      go_at_call 22
      refine (copyOfT_any _ _ ks (HA.out.below L1.out) hk1).mono ?_
      rintro e w2 ⟨v9, rfl, ho, hb⟩
      have hb' : Below w1.heap.size w1 w2 := hb
      have L2 : Hid (Below w.heap.size w w2) := L1.out.trans (hb'.mono L1.out.size)
      have B2 : Hid (w2.heap[w.heap.size]? = some (.cells #[.slice a ks.length cap, .slice a' ns.length cap'] 26 (0, 0))) := (hb'.block w.heap.size (lt_of_block405 B1.out)).trans B1.out
      have R2 : Hid (w2.heap[w.heap.size + 1]? = some (.cells #[.slice none 0 0, .slice none 0 0] 26 (0, 0))) := (hb'.block (w.heap.size + 1) (lt_of_block405 R1.out)).trans R1.out
      have Y2 : Hid (w2.heap[by0]? = some (.cells #[.int .i64 fr] 3 (0, 0))) := (hb'.block by0 (lt_of_block405 Y1.out)).trans Y1.out
      have O2 : Hid (w2.ownsRow (w.heap.size + 1 + 1) 9 1 v9 ks.length (texts ks)) := owns_lower ho (by have := lt_of_block405 R1.out; simp only [World.drew] at *; omega)
      have z0 : w2.cell? ⟨w.heap.size, 0, none⟩ = some (.slice a ks.length cap) := by rw [cell_of_row _ _ 0 _ _ _ B2.out]; rfl
      have z1 : w2.cell? ⟨w.heap.size, 1, none⟩ = some (.slice a' ns.length cap') := by rw [cell_of_row _ _ 1 _ _ _ B2.out]; rfl
      clear ho hb hb'
      refine hK.out _ _ ?_ (fun hHeld => ?_)
      · (first | go_keep | ((try dsimp only); go_keep))
      clear hK K
      try simp only [Act.put, List.setIfInBounds_toArray, List.set_cons_zero, List.set_cons_succ]
      clear z0 z1
      refine wpAnyH_ready (rs := [4]) (by kernel_rfl) (by simp) ?_
      refine AllReadyH.cons rfl (fun K hK => ?_) AllReadyH.nil
      go_simp
      obtain ⟨w3, hw3⟩ : ∃ x, w2.alloc (.cells #[.string key] 9) = x := ⟨_, rfl⟩
      have hb' : Below w2.heap.size w2 w3 := by rw [← hw3]; exact (Below.refl _ _).alloc (Nat.le_refl _) _
      obtain ⟨bx, hbx⟩ : ∃ x, w2.heap.size = x := ⟨_, rfl⟩
      have X3 : Hid (w3.heap[bx]? = some (.cells #[.string key] 9 (0, 0))) := by show _ = _; rw [← hw3, ← hbx]; exact heap_alloc_last w2 _
      have L3 : Hid (Below w.heap.size w w3) := L2.out.trans (hb'.mono L2.out.size)
      have B3 : Hid (w3.heap[w.heap.size]? = some (.cells #[.slice a ks.length cap, .slice a' ns.length cap'] 26 (0, 0))) := (hb'.block w.heap.size (lt_of_block405 B2.out)).trans B2.out
      have R3 : Hid (w3.heap[w.heap.size + 1]? = some (.cells #[.slice none 0 0, .slice none 0 0] 26 (0, 0))) := (hb'.block (w.heap.size + 1) (lt_of_block405 R2.out)).trans R2.out
      have O3 : Hid (w3.ownsRow (w.heap.size + 1 + 1) 9 1 v9 ks.length (texts ks)) := owns_below O2.out hb'
      have Y3 : Hid (w3.heap[by0]? = some (.cells #[.int .i64 fr] 3 (0, 0))) := (hb'.block by0 (lt_of_block405 Y2.out)).trans Y2.out
      have z0 : w3.cell? ⟨w.heap.size, 0, none⟩ = some (.slice a ks.length cap) := by rw [cell_of_row _ _ 0 _ _ _ B3.out]; rfl
      have z1 : w3.cell? ⟨w.heap.size, 1, none⟩ = some (.slice a' ns.length cap') := by rw [cell_of_row _ _ 1 _ _ _ B3.out]; rfl
      rw [hw3, hbx]
      clear hw3 hbx hb'
      refine hK.out _ _ ?_ (fun hHeld => ?_)
      · (first | go_keep | ((try dsimp only); go_keep))
      clear hK K
      try simp only [Act.put, List.setIfInBounds_toArray, List.set_cons_zero, List.set_cons_succ]
      clear z0 z1
      refine wpAnyH_ready (rs := [5]) (by kernel_rfl) (by simp) ?_
      refine AllReadyH.cons rfl (fun K hK => ?_) AllReadyH.nil
      refine step_append_own rfl (.tmp 9) (.tmp 11) 23 rfl (w.heap.size + 1 + 1) 9 i3 (.string ⟨#[]⟩) 1 16 Tryd.underlying23 hi3 hz3 hs3 hb3 rfl (by decide) v9 ks.length (texts ks) rfl O3.out ⟨bx, 0, none⟩ 1 1 [.string key] rfl rfl (news_cells X3.out) (one_text key) (by unfold maxLen; omega) (by omega) (by have := lt_of_block405 R3.out; omega) ?_
      intro v12 w4 hown hgrow hnil
      have hge := own_block_ge O3.out
      have L4 : Hid (Below w.heap.size w w4) := L3.out.trans (below_of_grown hgrow (fun q hq => by have := hge q hq; omega) (by have := L3.out.size; omega))
      have B4 : Hid (w4.heap[w.heap.size]? = some (.cells #[.slice a ks.length cap, .slice a' ns.length cap'] 26 (0, 0))) := (hgrow.block w.heap.size (lt_of_block405 B3.out) (fun h => by have := hge _ h.symm; omega)).trans B3.out
      have R4 : Hid (w4.heap[w.heap.size + 1]? = some (.cells #[.slice none 0 0, .slice none 0 0] 26 (0, 0))) := (hgrow.block (w.heap.size + 1) (lt_of_block405 R3.out) (fun h => by have := hge _ h.symm; omega)).trans R3.out
      have Y4 : Hid (w4.heap[by0]? = some (.cells #[.int .i64 fr] 3 (0, 0))) := (hgrow.block by0 (lt_of_block405 Y3.out) (row_ne_block O3.out Y3.out (by decide))).trans Y3.out
      have O4 : Hid (w4.ownsRow (w.heap.size + 1 + 1) 9 1 v12 (ks.length + 1) ((texts ks) ++ [.string key])) := hown
      have z0 : w4.cell? ⟨w.heap.size, 0, none⟩ = some (.slice a ks.length cap) := by rw [cell_of_row _ _ 0 _ _ _ B4.out]; rfl
      have z1 : w4.cell? ⟨w.heap.size, 1, none⟩ = some (.slice a' ns.length cap') := by rw [cell_of_row _ _ 1 _ _ _ B4.out]; rfl
      clear hown hgrow hnil hge
      refine hK.out _ _ ?_ (fun hHeld => ?_)
      · (first | go_keep | ((try dsimp only); go_keep))
      clear hK K
      try simp only [Act.put, List.setIfInBounds_toArray]
      clear z0 z1
      refine wpAnyH_ready (rs := [8]) (by kernel_rfl) (by simp) ?_
      refine AllReadyH.cons rfl (fun K hK => ?_) AllReadyH.nil
      go_simp
      go_at_call 23
      refine (copyOfI_any _ _ ns (HN.out.below L4.out) hk2).mono ?_
      rintro e w5 ⟨v15, rfl, ho, hb⟩
      have hb' : Below w4.heap.size w4 w5 := hb
      have L5 : Hid (Below w.heap.size w w5) := L4.out.trans (hb'.mono L4.out.size)
      have B5 : Hid (w5.heap[w.heap.size]? = some (.cells #[.slice a ks.length cap, .slice a' ns.length cap'] 26 (0, 0))) := (hb'.block w.heap.size (lt_of_block405 B4.out)).trans B4.out
      have R5 : Hid (w5.heap[w.heap.size + 1]? = some (.cells #[.slice none 0 0, .slice none 0 0] 26 (0, 0))) := (hb'.block (w.heap.size + 1) (lt_of_block405 R4.out)).trans R4.out
      have O5 : Hid (w5.ownsRow (w.heap.size + 1 + 1) 9 1 v12 (ks.length + 1) (texts ks ++ [.string key])) := owns_below O4.out hb'
      have Y5 : Hid (w5.heap[by0]? = some (.cells #[.int .i64 fr] 3 (0, 0))) := (hb'.block by0 (lt_of_block405 Y4.out)).trans Y4.out
      have I5 : Hid (w5.ownsRow (w.heap.size + 1 + 1) 3 1 v15 ns.length (intsV ns)) := owns_lower ho (by have := lt_of_block405 R4.out; simp only [World.drew] at *; omega)
      have z0 : w5.cell? ⟨w.heap.size, 0, none⟩ = some (.slice a ks.length cap) := by rw [cell_of_row _ _ 0 _ _ _ B5.out]; rfl
      have z1 : w5.cell? ⟨w.heap.size, 1, none⟩ = some (.slice a' ns.length cap') := by rw [cell_of_row _ _ 1 _ _ _ B5.out]; rfl
      clear ho hb hb'
      refine hK.out _ _ ?_ (fun hHeld => ?_)
      · (first | go_keep | ((try dsimp only); go_keep))
      clear hK K
      try simp only [Act.put, List.setIfInBounds_toArray, List.set_cons_zero, List.set_cons_succ]
      clear z0 z1
      refine wpAnyH_ready (rs := [11]) (by kernel_rfl) (by simp) ?_
      refine AllReadyH.cons rfl (fun K hK => ?_) AllReadyH.nil
      refine step_append_own rfl (.tmp 15) (.tmp 17) 24 rfl (w.heap.size + 1 + 1) 3 i4 (.int .i64 0) 1 8 Tryd.underlying24 hi4 hz4 hs4 hb4 rfl (by decide) v15 ns.length (intsV ns) rfl I5.out ⟨by0, 0, none⟩ 1 1 [.int .i64 fr] rfl rfl (news_cells Y5.out) (one_int fr) (by unfold maxLen; omega) (by omega) (by have := lt_of_block405 R5.out; omega) ?_
      intro v18 w6 hown hgrow hnil
      have hge := own_block_ge I5.out
      have L6 : Hid (Below w.heap.size w w6) := L5.out.trans (below_of_grown hgrow (fun q hq => by have := hge q hq; omega) (by have := L5.out.size; omega))
      have B6 : Hid (w6.heap[w.heap.size]? = some (.cells #[.slice a ks.length cap, .slice a' ns.length cap'] 26 (0, 0))) := (hgrow.block w.heap.size (lt_of_block405 B5.out) (fun h => by have := hge _ h.symm; omega)).trans B5.out
      have R6 : Hid (w6.heap[w.heap.size + 1]? = some (.cells #[.slice none 0 0, .slice none 0 0] 26 (0, 0))) := (hgrow.block (w.heap.size + 1) (lt_of_block405 R5.out) (fun h => by have := hge _ h.symm; omega)).trans R5.out
      have O6 : Hid (w6.ownsRow (w.heap.size + 1 + 1) 9 1 v12 (ks.length + 1) (texts ks ++ [.string key])) := owns_grown O5.out I5.out (by decide) hgrow
      have I6 : Hid (w6.ownsRow (w.heap.size + 1 + 1) 3 1 v18 (ns.length + 1) ((intsV ns) ++ [.int .i64 fr])) := hown
      have z0 : w6.cell? ⟨w.heap.size, 0, none⟩ = some (.slice a ks.length cap) := by rw [cell_of_row _ _ 0 _ _ _ B6.out]; rfl
      have z1 : w6.cell? ⟨w.heap.size, 1, none⟩ = some (.slice a' ns.length cap') := by rw [cell_of_row _ _ 1 _ _ _ B6.out]; rfl
      clear hown hgrow hnil hge
      refine hK.out _ _ ?_ (fun hHeld => ?_)
      · (first | go_keep | ((try dsimp only); go_keep))
      clear hK K
      try simp only [Act.put, List.setIfInBounds_toArray]
      clear z0 z1
      obtain ⟨p12, c12, rfl⟩ := owns_form O6.out
      obtain ⟨p18, c18, rfl⟩ := owns_form I6.out
      have u0 := Go.Joins.unfrozen_of_block R6.out 0
      have u1 := Go.Joins.unfrozen_of_block R6.out 1
      have r0 : w6.cell? ⟨w.heap.size + 1, 0, none⟩ = some (.slice none 0 0) := by rw [cell_of_row _ _ 0 _ _ _ R6.out]; rfl
      have r1 : w6.cell? ⟨w.heap.size + 1, 1, none⟩ = some (.slice none 0 0) := by rw [cell_of_row _ _ 1 _ _ _ R6.out]; rfl
      refine wpAnyH_ready (rs := [12]) (by kernel_rfl) (by simp) ?_
      refine AllReadyH.cons rfl (fun K hK => ?_) AllReadyH.nil
      go_simp
      refine hK.out _ _ ?_ (fun hHeld => ?_)
      · (first | go_keep | ((try dsimp only); go_keep))
      clear hK K
      try simp only [Act.put, List.setIfInBounds_toArray, List.set_cons_zero, List.set_cons_succ]
      refine wpAnyH_ready (rs := [13]) (by kernel_rfl) (by simp) ?_
      refine AllReadyH.cons rfl (fun K hK => ?_) AllReadyH.nil
      go_simp
      refine hK.out _ _ ?_ (fun hHeld => ?_)
      · (first | go_keep | ((try dsimp only); go_keep))
      clear hK K
      try simp only [Act.put, List.setIfInBounds_toArray, List.set_cons_zero, List.set_cons_succ]
      refine wpAnyH_done (by kernel_rfl) ?_ _
      go_wp2
      refine bodyPost_ret (v := .agg #[.slice p12 (ks.length + 1) c12, .slice p18 (ns.length + 1) c18]) (by simp [results, Tryd.results35, go_sem, r0, r1, World.cell?_setCell_same', World.cell?_setCell_other]) rfl ⟨_, rfl, ⟨_, _, rfl, ?_, ?_⟩, ?_⟩
      · refine TextsRow.weak (textsRow_of_owns (n := ks.length + 1) (lo := (w.heap.size + 1 + 1)) ?_ (by simp) HFIT.out) (by omega) (Nat.le_refl _)
        have ho := owns_set (owns_set O6.out (w.heap.size + 1) 0 (.slice p12 (ks.length + 1) c12) (by omega)) (w.heap.size + 1) 1 (.slice p18 (ns.length + 1) c18) (by omega)
        rw [texts_append]; exact ho
      · refine IntsRow.weak (intsRow_of_owns (n := ns.length + 1) (lo := (w.heap.size + 1 + 1)) ?_ (by simp)) (by omega) (Nat.le_refl _)
        have ho := owns_set (owns_set I6.out (w.heap.size + 1) 0 (.slice p12 (ks.length + 1) c12) (by omega)) (w.heap.size + 1) 1 (.slice p18 (ns.length + 1) c18) (by omega)
        rw [intsV_app]; exact ho
      · exact (L6.out.setCell (by simp <;> omega) _).setCell (by simp <;> omega) _
    · skip
      go_simp
      obtain ⟨w2, hw2⟩ : ∃ x, w1.alloc (.cells #[.string key] 9) = x := ⟨_, rfl⟩
      have hb' : Below w1.heap.size w1 w2 := by rw [← hw2]; exact (Below.refl _ _).alloc (Nat.le_refl _) _
      obtain ⟨bx, hbx⟩ : ∃ x, w1.heap.size = x := ⟨_, rfl⟩
      have X2 : Hid (w2.heap[bx]? = some (.cells #[.string key] 9 (0, 0))) := by show _ = _; rw [← hw2, ← hbx]; exact heap_alloc_last w1 _
      have L2 : Hid (Below w.heap.size w w2) := L1.out.trans (hb'.mono L1.out.size)
      have B2 : Hid (w2.heap[w.heap.size]? = some (.cells #[.slice a ks.length cap, .slice a' ns.length cap'] 26 (0, 0))) := (hb'.block w.heap.size (lt_of_block405 B1.out)).trans B1.out
      have R2 : Hid (w2.heap[w.heap.size + 1]? = some (.cells #[.slice none 0 0, .slice none 0 0] 26 (0, 0))) := (hb'.block (w.heap.size + 1) (lt_of_block405 R1.out)).trans R1.out
      have Y2 : Hid (w2.heap[by0]? = some (.cells #[.int .i64 fr] 3 (0, 0))) := (hb'.block by0 (lt_of_block405 Y1.out)).trans Y1.out
      have z0 : w2.cell? ⟨w.heap.size, 0, none⟩ = some (.slice a ks.length cap) := by rw [cell_of_row _ _ 0 _ _ _ B2.out]; rfl
      have z1 : w2.cell? ⟨w.heap.size, 1, none⟩ = some (.slice a' ns.length cap') := by rw [cell_of_row _ _ 1 _ _ _ B2.out]; rfl
      rw [hw2, hbx]
      clear hw2 hbx hb'
      refine hK.out _ _ ?_ (fun hHeld => ?_)
      · (first | go_keep | ((try dsimp only); go_keep))
      clear hK K
      try simp only [Act.put, List.setIfInBounds_toArray, List.set_cons_zero, List.set_cons_succ]
      clear z0 z1
      refine wpAnyH_ready (rs := [2]) (by kernel_rfl) (by simp) ?_
      refine AllReadyH.cons rfl (fun K hK => ?_) AllReadyH.nil
      go_simp
      go_at_call 22
      refine (copyOfT_any _ _ ks (HA.out.below L2.out) hk1).mono ?_
      rintro e w3 ⟨v9, rfl, ho, hb⟩
      have hb' : Below w2.heap.size w2 w3 := hb
      have L3 : Hid (Below w.heap.size w w3) := L2.out.trans (hb'.mono L2.out.size)
      have B3 : Hid (w3.heap[w.heap.size]? = some (.cells #[.slice a ks.length cap, .slice a' ns.length cap'] 26 (0, 0))) := (hb'.block w.heap.size (lt_of_block405 B2.out)).trans B2.out
      have R3 : Hid (w3.heap[w.heap.size + 1]? = some (.cells #[.slice none 0 0, .slice none 0 0] 26 (0, 0))) := (hb'.block (w.heap.size + 1) (lt_of_block405 R2.out)).trans R2.out
      have X3 : Hid (w3.heap[bx]? = some (.cells #[.string key] 9 (0, 0))) := (hb'.block bx (lt_of_block405 X2.out)).trans X2.out
      have Y3 : Hid (w3.heap[by0]? = some (.cells #[.int .i64 fr] 3 (0, 0))) := (hb'.block by0 (lt_of_block405 Y2.out)).trans Y2.out
      have O3 : Hid (w3.ownsRow (w.heap.size + 1 + 1) 9 1 v9 ks.length (texts ks)) := owns_lower ho (by have := lt_of_block405 R2.out; simp only [World.drew] at *; omega)
      have z0 : w3.cell? ⟨w.heap.size, 0, none⟩ = some (.slice a ks.length cap) := by rw [cell_of_row _ _ 0 _ _ _ B3.out]; rfl
      have z1 : w3.cell? ⟨w.heap.size, 1, none⟩ = some (.slice a' ns.length cap') := by rw [cell_of_row _ _ 1 _ _ _ B3.out]; rfl
      clear ho hb hb'
      refine hK.out _ _ ?_ (fun hHeld => ?_)
      · (first | go_keep | ((try dsimp only); go_keep))
      clear hK K
      try simp only [Act.put, List.setIfInBounds_toArray, List.set_cons_zero, List.set_cons_succ]
      clear z0 z1
      refine wpAnyH_ready (rs := [5]) (by kernel_rfl) (by simp) ?_
      refine AllReadyH.cons rfl (fun K hK => ?_) AllReadyH.nil
      refine step_append_own rfl (.tmp 9) (.tmp 11) 23 rfl (w.heap.size + 1 + 1) 9 i3 (.string ⟨#[]⟩) 1 16 Tryd.underlying23 hi3 hz3 hs3 hb3 rfl (by decide) v9 ks.length (texts ks) rfl O3.out ⟨bx, 0, none⟩ 1 1 [.string key] rfl rfl (news_cells X3.out) (one_text key) (by unfold maxLen; omega) (by omega) (by have := lt_of_block405 R3.out; omega) ?_
      intro v12 w4 hown hgrow hnil
      have hge := own_block_ge O3.out
      have L4 : Hid (Below w.heap.size w w4) := L3.out.trans (below_of_grown hgrow (fun q hq => by have := hge q hq; omega) (by have := L3.out.size; omega))
      have B4 : Hid (w4.heap[w.heap.size]? = some (.cells #[.slice a ks.length cap, .slice a' ns.length cap'] 26 (0, 0))) := (hgrow.block w.heap.size (lt_of_block405 B3.out) (fun h => by have := hge _ h.symm; omega)).trans B3.out
      have R4 : Hid (w4.heap[w.heap.size + 1]? = some (.cells #[.slice none 0 0, .slice none 0 0] 26 (0, 0))) := (hgrow.block (w.heap.size + 1) (lt_of_block405 R3.out) (fun h => by have := hge _ h.symm; omega)).trans R3.out
      have Y4 : Hid (w4.heap[by0]? = some (.cells #[.int .i64 fr] 3 (0, 0))) := (hgrow.block by0 (lt_of_block405 Y3.out) (row_ne_block O3.out Y3.out (by decide))).trans Y3.out
      have O4 : Hid (w4.ownsRow (w.heap.size + 1 + 1) 9 1 v12 (ks.length + 1) ((texts ks) ++ [.string key])) := hown
      have z0 : w4.cell? ⟨w.heap.size, 0, none⟩ = some (.slice a ks.length cap) := by rw [cell_of_row _ _ 0 _ _ _ B4.out]; rfl
      have z1 : w4.cell? ⟨w.heap.size, 1, none⟩ = some (.slice a' ns.length cap') := by rw [cell_of_row _ _ 1 _ _ _ B4.out]; rfl
      clear hown hgrow hnil hge
      refine hK.out _ _ ?_ (fun hHeld => ?_)
      · (first | go_keep | ((try dsimp only); go_keep))
      clear hK K
      try simp only [Act.put, List.setIfInBounds_toArray]
      clear z0 z1
      refine wpAnyH_ready (rs := [8]) (by kernel_rfl) (by simp) ?_
      refine AllReadyH.cons rfl (fun K hK => ?_) AllReadyH.nil
      go_simp
      go_at_call 23
      refine (copyOfI_any _ _ ns (HN.out.below L4.out) hk2).mono ?_
      rintro e w5 ⟨v15, rfl, ho, hb⟩
      have hb' : Below w4.heap.size w4 w5 := hb
      have L5 : Hid (Below w.heap.size w w5) := L4.out.trans (hb'.mono L4.out.size)
      have B5 : Hid (w5.heap[w.heap.size]? = some (.cells #[.slice a ks.length cap, .slice a' ns.length cap'] 26 (0, 0))) := (hb'.block w.heap.size (lt_of_block405 B4.out)).trans B4.out
      have R5 : Hid (w5.heap[w.heap.size + 1]? = some (.cells #[.slice none 0 0, .slice none 0 0] 26 (0, 0))) := (hb'.block (w.heap.size + 1) (lt_of_block405 R4.out)).trans R4.out
      have O5 : Hid (w5.ownsRow (w.heap.size + 1 + 1) 9 1 v12 (ks.length + 1) (texts ks ++ [.string key])) := owns_below O4.out hb'
      have Y5 : Hid (w5.heap[by0]? = some (.cells #[.int .i64 fr] 3 (0, 0))) := (hb'.block by0 (lt_of_block405 Y4.out)).trans Y4.out
      have I5 : Hid (w5.ownsRow (w.heap.size + 1 + 1) 3 1 v15 ns.length (intsV ns)) := owns_lower ho (by have := lt_of_block405 R4.out; simp only [World.drew] at *; omega)
      have z0 : w5.cell? ⟨w.heap.size, 0, none⟩ = some (.slice a ks.length cap) := by rw [cell_of_row _ _ 0 _ _ _ B5.out]; rfl
      have z1 : w5.cell? ⟨w.heap.size, 1, none⟩ = some (.slice a' ns.length cap') := by rw [cell_of_row _ _ 1 _ _ _ B5.out]; rfl
      clear ho hb hb'
      refine hK.out _ _ ?_ (fun hHeld => ?_)
      · (first | go_keep | ((try dsimp only); go_keep))
      clear hK K
      try simp only [Act.put, List.setIfInBounds_toArray, List.set_cons_zero, List.set_cons_succ]
      clear z0 z1
      refine wpAnyH_ready (rs := [11]) (by kernel_rfl) (by simp) ?_
      refine AllReadyH.cons rfl (fun K hK => ?_) AllReadyH.nil
      refine step_append_own rfl (.tmp 15) (.tmp 17) 24 rfl (w.heap.size + 1 + 1) 3 i4 (.int .i64 0) 1 8 Tryd.underlying24 hi4 hz4 hs4 hb4 rfl (by decide) v15 ns.length (intsV ns) rfl I5.out ⟨by0, 0, none⟩ 1 1 [.int .i64 fr] rfl rfl (news_cells Y5.out) (one_int fr) (by unfold maxLen; omega) (by omega) (by have := lt_of_block405 R5.out; omega) ?_
      intro v18 w6 hown hgrow hnil
      have hge := own_block_ge I5.out
      have L6 : Hid (Below w.heap.size w w6) := L5.out.trans (below_of_grown hgrow (fun q hq => by have := hge q hq; omega) (by have := L5.out.size; omega))
      have B6 : Hid (w6.heap[w.heap.size]? = some (.cells #[.slice a ks.length cap, .slice a' ns.length cap'] 26 (0, 0))) := (hgrow.block w.heap.size (lt_of_block405 B5.out) (fun h => by have := hge _ h.symm; omega)).trans B5.out
      have R6 : Hid (w6.heap[w.heap.size + 1]? = some (.cells #[.slice none 0 0, .slice none 0 0] 26 (0, 0))) := (hgrow.block (w.heap.size + 1) (lt_of_block405 R5.out) (fun h => by have := hge _ h.symm; omega)).trans R5.out
      have O6 : Hid (w6.ownsRow (w.heap.size + 1 + 1) 9 1 v12 (ks.length + 1) (texts ks ++ [.string key])) := owns_grown O5.out I5.out (by decide) hgrow
      have I6 : Hid (w6.ownsRow (w.heap.size + 1 + 1) 3 1 v18 (ns.length + 1) ((intsV ns) ++ [.int .i64 fr])) := hown
      have z0 : w6.cell? ⟨w.heap.size, 0, none⟩ = some (.slice a ks.length cap) := by rw [cell_of_row _ _ 0 _ _ _ B6.out]; rfl
      have z1 : w6.cell? ⟨w.heap.size, 1, none⟩ = some (.slice a' ns.length cap') := by rw [cell_of_row _ _ 1 _ _ _ B6.out]; rfl
      clear hown hgrow hnil hge
      refine hK.out _ _ ?_ (fun hHeld => ?_)
      · (first | go_keep | ((try dsimp only); go_keep))
      clear hK K
      try simp only [Act.put, List.setIfInBounds_toArray]
      clear z0 z1
      obtain ⟨p12, c12, rfl⟩ := owns_form O6.out
      obtain ⟨p18, c18, rfl⟩ := owns_form I6.out
      have u0 := Go.Joins.unfrozen_of_block R6.out 0
      have u1 := Go.Joins.unfrozen_of_block R6.out 1
      have r0 : w6.cell? ⟨w.heap.size + 1, 0, none⟩ = some (.slice none 0 0) := by rw [cell_of_row _ _ 0 _ _ _ R6.out]; rfl
      have r1 : w6.cell? ⟨w.heap.size + 1, 1, none⟩ = some (.slice none 0 0) := by rw [cell_of_row _ _ 1 _ _ _ R6.out]; rfl
      refine wpAnyH_ready (rs := [12]) (by kernel_rfl) (by simp) ?_
      refine AllReadyH.cons rfl (fun K hK => ?_) AllReadyH.nil
      go_simp
      refine hK.out _ _ ?_ (fun hHeld => ?_)
      · (first | go_keep | ((try dsimp only); go_keep))
      clear hK K
      try simp only [Act.put, List.setIfInBounds_toArray, List.set_cons_zero, List.set_cons_succ]
      refine wpAnyH_ready (rs := [13]) (by kernel_rfl) (by simp) ?_
      refine AllReadyH.cons rfl (fun K hK => ?_) AllReadyH.nil
      go_simp
      refine hK.out _ _ ?_ (fun hHeld => ?_)
      · (first | go_keep | ((try dsimp only); go_keep))
      clear hK K
      try simp only [Act.put, List.setIfInBounds_toArray, List.set_cons_zero, List.set_cons_succ]
      refine wpAnyH_done (by kernel_rfl) ?_ _
      go_wp2
      refine bodyPost_ret (v := .agg #[.slice p12 (ks.length + 1) c12, .slice p18 (ns.length + 1) c18]) (by simp [results, Tryd.results35, go_sem, r0, r1, World.cell?_setCell_same', World.cell?_setCell_other]) rfl ⟨_, rfl, ⟨_, _, rfl, ?_, ?_⟩, ?_⟩
      · refine TextsRow.weak (textsRow_of_owns (n := ks.length + 1) (lo := (w.heap.size + 1 + 1)) ?_ (by simp) HFIT.out) (by omega) (Nat.le_refl _)
        have ho := owns_set (owns_set O6.out (w.heap.size + 1) 0 (.slice p12 (ks.length + 1) c12) (by omega)) (w.heap.size + 1) 1 (.slice p18 (ns.length + 1) c18) (by omega)
        rw [texts_append]; exact ho
      · refine IntsRow.weak (intsRow_of_owns (n := ns.length + 1) (lo := (w.heap.size + 1 + 1)) ?_ (by simp)) (by omega) (Nat.le_refl _)
        have ho := owns_set (owns_set I6.out (w.heap.size + 1) 0 (.slice p12 (ks.length + 1) c12) (by omega)) (w.heap.size + 1) 1 (.slice p18 (ns.length + 1) c18) (by omega)
        rw [intsV_app]; exact ho
      · exact (L6.out.setCell (by simp <;> omega) _).setCell (by simp <;> omega) _
end Go.Proofs.YtdjpeickokoclaaDoor
/-
  RingNew of both.
-/
namespace Go.Proofs.YtdjpeickokoclaaDoor
open Go.RowKit
set_option linter.unusedVariables false
theorem nilRing {lo hi : Nat} (w : World) : RingOwn lo hi w (.agg #[.slice none 0 0, .slice none 0 0]) ([], []) :=
  ⟨_, _, rfl, ⟨⟨none, 0, rfl, Nat.le_refl _, Nat.zero_le _, fun hn => absurd rfl hn⟩, fun i x hx => by simp at hx⟩, ⟨none, 0, rfl, Nat.le_refl _, Nat.zero_le _, fun hn => absurd rfl hn⟩⟩
end Go.Proofs.YtdjpeickokoclaaDoor
/-
  The law FnRingNew.
-/
namespace Go.Proofs.YtdjpeickokoclaaDoor
open Go.RowKit
set_option linter.unusedVariables false
set_option maxHeartbeats 1000000 in
theorem mdRing_same (w : World) (v u : Value) (x : RingM) (h : RingAt w v x) (h' : RingAt w u x) :
    Calls Tryd.prog 8 #[v, u] w fun e w' => e = .returned (.bool true) ∧ Below w.heap.size w w' := by
  obtain ⟨va, vn, rfl, ha, hn⟩ := h
  obtain ⟨ua, un, rfl, ha', hn'⟩ := h'
  obtain ⟨ks, ns⟩ := x
  simp only at ha hn ha' hn'
  obtain ⟨a, cap, rfl, hc, hm⟩ := hn.form
  obtain ⟨a', cap', rfl, hc', hm'⟩ := hn'.form
  have HA : Hid (TextsAt w va ks) := ha
  have HN : Hid (IntsAt w (.slice a ns.length cap) ns) := hn
  have HA' : Hid (TextsAt w ua ks) := ha'
  have HN' : Hid (IntsAt w (.slice a' ns.length cap') ns) := hn'
  have HX : Hid (Below w.heap.size w ((w.alloc (.cells #[va, .slice a ns.length cap] 26)).alloc (.cells #[ua, .slice a' ns.length cap'] 26))) := ((Below.refl _ _).alloc (Nat.le_refl _) _).alloc (by simp) _
  unfold maxLen at hm hm'
  clear ha hn ha' hn'
  go_enter Tryd.func8, Tryd.ntmps8
  go_wp2_with fail
  refine (mdTexts_same _ _ _ ks (HA.out.below HX.out) (HA'.out.below HX.out)).mono ?_
  rintro e w1 ⟨rfl, hb1⟩
  have HB1 : Hid (Below w.heap.size w w1) := HX.out.trans (hb1.mono (by simp <;> omega))
  have c1 : w1.cell? ⟨w.heap.size, 1, none⟩ = some (.slice a ns.length cap) := (hb1.cell (p := ⟨w.heap.size, 1, none⟩) (by simp <;> omega)).trans (by simp [go_sem])
  have c2 : w1.cell? ⟨w.heap.size + 1, 1, none⟩ = some (.slice a' ns.length cap') := (hb1.cell (p := ⟨w.heap.size + 1, 1, none⟩) (by simp)).trans (by simp [go_sem])
  have hz1 : w.heap.size + 1 < w1.heap.size := by have := hb1.size; simp at this; omega
  clear hb1
  go_wp2_with fail
  go_loopw [5] (fun i wr => ∃ (k : Nat), k ≤ ns.length ∧ i = .int .i64 k ∧ Below w.heap.size w wr ∧ wr.cell? ⟨w.heap.size, 1, none⟩ = some (.slice a ns.length cap) ∧ wr.cell? ⟨w.heap.size + 1, 1, none⟩ = some (.slice a' ns.length cap')) (fun i _ => ns.length - (intOf i).toNat)
  case atStart => exact ⟨0, Nat.zero_le _, rfl, HB1.out, c1, c2⟩
  case round =>
    clear c1 c2
    obtain ⟨k, hk, rfl, hb, s1, s2⟩ := hrel
    have HB : Hid (Below w.heap.size w wr) := hb
    clear hb
    by_cases hlt : k < ns.length
    · obtain ⟨b, off, cap1, s, hv, _, hs, d1⟩ := (HN.out.below HB.out).at hlt
      cases hv
      obtain ⟨b', off', cap2, s', hv', _, hs', d2⟩ := (HN'.out.below HB.out).at hlt
      cases hv'
      rw [hs] at hs'
      cases hs'
      clear hs
      have hlt' : (k : Int) < ns.length := by omega
      go_wp2_with fail
      go_quiet (fail)
      go_wp2
      go_roundw
      case rel => exact ⟨k + 1, by omega, by go_num, below_drewN70 HB.out _, s1, s2⟩
      case measure => simp [intOf]; omega
    · have hke : k = ns.length := by omega
      subst hke
      go_wp2
      go_ret
      exact ⟨rfl, HB.out⟩
end Go.Proofs.YtdjpeickokoclaaDoor
