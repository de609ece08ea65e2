/-
  Copies of rows of texts.
-/
import Derived.Test.YtlmkilfffpdpfaaW129
import Derived.Test.YtlmkilfffpdpfaaW140
import Derived.Test.YtlmkilfffpdpfaaW12
import Derived.Test.YtlmkilfffpdpfaaW13
namespace Go.Proofs.Ytlmkilfffpdpfaa
open Go.RowKit
set_option linter.unusedVariables false
theorem add_plain398 (b o j : Nat) : (⟨b, o, none⟩ : Addr).add j = ⟨b, o + j, none⟩ := by unfold Addr.add; split <;> simp_all
theorem texts_one405 (xs : List ByteArray) : ∀ u ∈ texts xs, u.oneCell' = true := by
  intro u hu
  simp only [texts, List.mem_map] at hu
  obtain ⟨a, _, rfl⟩ := hu
  rfl
theorem news_texts {W : World} {xs : List ByteArray} {b off n cap : Nat} (h : TextsAt W (.slice (some ⟨b, off, none⟩) n cap) xs) : ∀ j u, (texts xs)[j]? = some u → W.cell? ((⟨b, off, none⟩ : Addr).add j) = some u := by
  intro j u hu
  have hj : j < xs.length := by have := (List.getElem?_eq_some_iff.1 hu).1; simpa [texts] using this
  obtain ⟨b', off', cap', x, hv, _, hx, _, h0⟩ := h.at hj
  cases hv
  rw [add_plain398, h0]
  simp [texts, hx] at hu
  rw [hu]
theorem textsRow_of_owns {lo : Nat} {w : World} {v : Value} {xs : List ByteArray} {n : Nat} (h : w.ownsRow lo 9 1 v n (texts xs)) (hn : n = xs.length) (hf : ∀ (i : Nat) (x : ByteArray), xs[i]? = some x → x.size ≤ maxLen) : TextsRow lo w.heap.size w v xs := by
  subst hn
  exact ⟨rowOwn_of_owns h fun f hf j x hj hx => hf j _ (by simp [texts, hx]), hf⟩
theorem Try.info_str405 : (Try.prog.info? 9).map (fun i => (i.zero, i.size, i.bytes)) = some (some (.string ⟨#[]⟩), 1, 16) := by kernel_rfl
set_option maxHeartbeats 1000000 in
theorem copyOfT_any (w : World) (v : Value) (xs : List ByteArray) (h : TextsAt w v xs) (hn : xs.length ≤ 1000) :
    Calls Try.prog 18 #[v] w fun e w' => ∃ v', e = .returned v' ∧ w'.ownsRow w.heap.size 9 1 v' xs.length (texts xs) ∧ Below w.heap.size w w' := by
  obtain ⟨a, cap, rfl, hc, hm⟩ := h.form
  have HS : Hid (TextsAt w (.slice a xs.length cap) xs) := h
  clear h
  unfold maxLen at hm
  obtain ⟨i3, hi3, hz3, hs3, hb3⟩ := info_parts Try.info_str405
  by_cases h0 : xs = []
  · subst h0
    have hl : ([] : List ByteArray).length = 0 := rfl
    rw [hl]
    cases a with
    | none =>
      go_enter Try.func18, Try.ntmps18
      go_wp2
      go_ret
      exact ⟨_, rfl, World.ownsRow_nil _ _ _ _, Below.refl _ _⟩
    | some ad =>
      go_enter Try.func18, Try.ntmps18
      go_wp2
      go_ret
      exact ⟨_, rfl, World.ownsRow_nil _ _ _ _, Below.refl _ _⟩
  · obtain ⟨b, off, cap1, x, hv, hbl, hx, _, _⟩ := HS.out.at (k := 0) (by cases xs with | nil => exact absurd rfl h0 | cons _ _ => simp)
    cases hv
    clear hx
    go_enter Try.func18, Try.ntmps18
    go_wp2_with (at_builtin; refine wpList_append_own _ rfl _ _ 23 rfl w.heap.size 9 i3 (.string ⟨#[]⟩) 1 16 Try.underlying23 hi3 hz3 hs3 hb3 rfl (by decide) (.slice none 0 0) 0 [] rfl (World.ownsRow_nil _ _ _ _) ⟨b, off, none⟩ xs.length cap (texts xs) rfl (by simp [texts]) (news_texts HS.out) (texts_one405 xs) (by unfold maxLen; omega) (by omega) (Nat.le_refl _) ?_; intro v1 w1 hown hgrow hnil; have HB1 : Hid (Below w.heap.size w w1) := below_of_grown hgrow (fun k hk => by cases hk) (Nat.le_refl _); have HO : Hid (w1.ownsRow w.heap.size 9 1 v1 xs.length (texts xs)) := (by rw [Nat.zero_add, List.nil_append] at hown; exact hown); clear hown hgrow hnil)
    go_ret
    exact ⟨_, rfl, HO.out, HB1.out⟩
end Go.Proofs.Ytlmkilfffpdpfaa
/-
  One's own words, drawn.
-/
namespace Go.Proofs.Ytlmkilfffpdpfaa
open Go.RowKit
set_option linter.unusedVariables false
theorem owns_keptS {blk lo : Nat} {w w' : World} {e : TypeId} {s n : Nat} {v : Value} {xs : List Value} (h : w.ownsRow lo e s v n xs) (hk : Kept blk w w') (hb : blk < lo) : w'.ownsRow lo e s v n xs := by
  refine ⟨h.1, ?_⟩
  rcases h.2 with h2 | ⟨g, cap, cur, hv, h1, h3, h4⟩
  · exact .inl h2
  · exact .inr ⟨g, cap, cur, hv, h1, (hk.block g (Array.getElem?_eq_some_iff.1 h3).1 (by omega)).trans h3, h4⟩
theorem owns_lowS {lo lo' : Nat} {w : World} {e : TypeId} {size n : Nat} {v : Value} {xs : List Value} (h : w.ownsRow lo e size v n xs) (hl : lo' ≤ lo) : w.ownsRow lo' e size v n xs := by
  refine ⟨h.1, ?_⟩
  rcases h.2 with h2 | ⟨g, cap, cur, hv, h1, h3⟩
  · exact .inl h2
  · exact .inr ⟨g, cap, cur, hv, Nat.le_trans hl h1, h3⟩
theorem put_len460 (s : ByteArray) : ∀ (xs : List ByteArray), (put xs s).length ≤ xs.length + 1
  | [] => by simp [put]
  | x :: xs => by
    have := put_len460 s xs
    rw [put]
    split
    · simp; omega
    · split <;> simp
theorem short_fits {xs : List ByteArray} (h : ∀ x ∈ xs, x.size ≤ 20) : ∀ (i : Nat) (x : ByteArray), xs[i]? = some x → x.size ≤ maxLen := fun i x hx => by
  have := h x (List.mem_of_getElem? hx)
  unfold maxLen; omega
def tenW : List ByteArray := [⟨#[97]⟩, ⟨#[98]⟩, ⟨#[99]⟩, ⟨#[100]⟩, ⟨#[101]⟩, ⟨#[102]⟩, ⟨#[103]⟩, ⟨#[104]⟩, ⟨#[105]⟩, ⟨#[106]⟩]
theorem tenW_short : ∀ x ∈ tenW, x.size ≤ 20 := by decide
theorem owns_ten (w : World) (lo : Nat) (t : TypeId) (h : lo ≤ w.heap.size) : (w.alloc (.cells #[.string ⟨#[97]⟩, .string ⟨#[98]⟩, .string ⟨#[99]⟩, .string ⟨#[100]⟩, .string ⟨#[101]⟩, .string ⟨#[102]⟩, .string ⟨#[103]⟩, .string ⟨#[104]⟩, .string ⟨#[105]⟩, .string ⟨#[106]⟩] t)).ownsRow lo t 1 (.slice (some ⟨w.heap.size, 0, none⟩) 10 10) tenW.length (texts tenW) :=
  ⟨rfl, .inr ⟨w.heap.size, 10, _, rfl, h, heap_alloc_last w _, Nat.le_refl _, by unfold maxLen; decide, rfl, rfl⟩⟩
theorem below_alloc460 (w : World) (o : Obj) {B : Nat} (h : B ≤ w.heap.size) : Below B w (w.alloc o) := (Below.refl B w).alloc h o
theorem rdAt_lt460 {w w' : World} {blk p : Nat} (h : RdAt w blk p) (hb : ∀ k, k ≤ blk → w'.heap[k]? = w.heap[k]?) : RdAt w' blk p := by
  obtain ⟨a, len, cap, h1, h2, h3⟩ := h
  refine ⟨a, len, cap, (hb blk (Nat.le_refl _)).trans h1, h2, ?_⟩
  rcases h3 with h3 | ⟨b, off, ha, hb', hc⟩
  · exact .inl h3
  · refine .inr ⟨b, off, ha, hb', fun i hi => ?_⟩
    obtain ⟨z, hz, hz1⟩ := hc i hi
    exact ⟨z, (World.cell?_of_block (w := w) (hb b (by omega))).trans hz, hz1⟩
theorem Hid.mk460 {p : Prop} (h : p) : Hid p := h
set_option maxRecDepth 100000 in
set_option maxHeartbeats 4000000 in
theorem l13Own_any (w : World) (blk p : Nat) (h : RdAt w blk p) (hp : p ≤ 100000) :
    Calls Try.prog 14 #[.pointer (some ⟨blk, 0, none⟩)] w fun e w' => ∃ (v : Value) (xs : List ByteArray), e = .returned v ∧ w'.ownsRow w.heap.size 9 1 v xs.length (texts xs) ∧ xs.length ≤ 20 ∧ (∀ x ∈ xs, x.size ≤ 20) ∧ (∃ q, RdAt w' blk q ∧ q ≤ p + 50) ∧ Kept blk w w' := by
  have hlt := h.lt
  have HR0 : Hid (RdAt (w.alloc (.cells #[] 9)) blk p) := h.alloc _
  clear h
  obtain ⟨i3, hi3, hz3, hs3, hb3⟩ := info_parts Try.info_str405
  have HO0 : Hid ((w.alloc (.cells #[] 9)).ownsRow w.heap.size 9 1 (.slice (some ⟨w.heap.size, 0, none⟩) 0 0) 0 []) := owns_alone (heap_alloc_last w _) (Nat.le_refl _)
  go_enter Try.func14, Try.ntmps14
  go_wp2_with fail
  refine (pick_any _ blk p 4 HR0.out (by omega) (by omega)).mono ?_
  rintro e w1 ⟨n, rfl, hn0, hn1, hr1, hk1⟩
  obtain ⟨N, rfl⟩ : ∃ N : Nat, n = (N : Int) := ⟨n.toNat, by omega⟩
  have hN : N ≤ 3 := by have := hn1 (by omega); omega
  have HR1 : Hid (RdAt w1 blk (p + 1)) := hr1
  have HK1 : Hid (Kept blk w w1) := ((Kept.refl blk w).alloc _).trans hk1
  have HO1 : Hid (w1.ownsRow w.heap.size 9 1 (.slice (some ⟨w.heap.size, 0, none⟩) 0 0) 0 []) := owns_keptS HO0.out hk1 hlt
  clear hr1 hk1 hn0 hn1
  go_wp2_with fail
  go_loopw [3, 4] (fun o i wr => ∃ (m r : Nat) (a0 : Addr) (c0 : Nat) (xs : List ByteArray) (q : Nat), m + r ≤ 3 ∧ o = .slice (some a0) xs.length c0 ∧ i = .int .i64 m ∧ wr.ownsRow w.heap.size 9 1 (.slice (some a0) xs.length c0) xs.length (texts xs) ∧ xs.length ≤ r ∧ (∀ x ∈ xs, x.size ≤ 20) ∧ RdAt wr blk q ∧ q ≤ p + 1 + 10 * r ∧ Kept blk w wr) (fun _ i _ => (intOf i).toNat)
  case atStart => exact ⟨N, 0, _, 0, [], p + 1, by omega, rfl, rfl, HO1.out, Nat.le_refl _, fun x hx => by simp at hx, HR1.out, by omega, HK1.out⟩
  case round =>
    obtain ⟨m, r, a0, c0, xs, q, hmr, rfl, rfl, ho, hl, hf, hr, hq, hk⟩ := hrel
    have HO : Hid (wr.ownsRow w.heap.size 9 1 (.slice (some a0) xs.length c0) xs.length (texts xs)) := ho
    have HF : Hid (∀ x ∈ xs, x.size ≤ 20) := hf
    have HR : Hid (RdAt wr blk q) := hr
    have HK : Hid (Kept blk w wr) := hk
    clear ho hf hr hk
    by_cases h0 : 0 < m
    · have h0i : (0 : Int) < m := by omega
      obtain ⟨m', hm'⟩ : ∃ m', m = m' + 1 := ⟨m - 1, by omega⟩
      have q1 : IntKind.i64.wrap ((m : Int) - 1) = (m' : Int) := by rw [show (m : Int) - 1 = (m' : Int) by omega]; exact IntWalk.i64_in _ (by omega)
      have HM : Hid (m = m' + 1) := hm'
      clear hm'
      go_wp2_with fail
      refine (l13Word_any wr blk q HR.out (by omega)).mono ?_
      rintro e w2 ⟨s, rfl, hs, ⟨q2, hr2, hq2⟩, hk2⟩
      have HO2 : Hid (w2.ownsRow w.heap.size 9 1 (.slice (some a0) xs.length c0) xs.length (texts xs)) := owns_keptS HO.out hk2 hlt
      have HR2 : Hid (RdAt w2 blk q2) := hr2
      have HK2 : Hid (Kept blk w w2) := HK.out.trans hk2
      have hs20 : s.size ≤ 20 := hs
      clear hr2 hk2 hs
      go_wp2_with fail
      refine (l1PutOwn_any w2 _ xs s (TextRow.of_owns HO2.out (by simp)) (by omega)).mono ?_
      rintro e w3 ⟨v3, rfl, h3, hb3'⟩
      have hz2 : w.heap.size ≤ w2.heap.size := HK2.out.size
      have h3' : w3.ownsRow w.heap.size 9 1 v3 (put xs s).length (texts (put xs s)) ∧ v3 ≠ .slice none 0 0 := by
        rcases h3 with ⟨rfl, hpx, rfl⟩ | ⟨ho3, hn3⟩
        · rw [hpx]; exact ⟨HO2.out, by simp⟩
        · exact ⟨owns_lowS ho3 hz2, hn3⟩
      have hpl := put_len460 s xs
      have HPF : Hid (∀ x ∈ put xs s, x.size ≤ 20) := fun x hx => ((mem_put xs s x).1 hx).elim (fun h => by rw [h]; exact hs20) (fun h => HF.out x h)
      have HR3 : Hid (RdAt w3 blk q2) := HR2.out.keep hb3'
      have HK3 : Hid (Kept blk w w3) := HK2.out.trans (Kept.of_below hb3')
      obtain ⟨ho3, hn3⟩ := h3'
      obtain ⟨b3, c3, rfl⟩ := owns_form ho3
      obtain ⟨a3, rfl⟩ : ∃ a, b3 = some a := by
        cases b3 with
        | some a => exact ⟨a, rfl⟩
        | none =>
          rcases ho3.2 with ⟨h1, _⟩ | ⟨g, cap, cur, h1, _⟩
          · exact absurd h1 hn3
          · cases h1
      have HO3 : Hid (w3.ownsRow w.heap.size 9 1 (.slice (some a3) (put xs s).length c3) (put xs s).length (texts (put xs s))) := ho3
      clear ho3 hn3 hb3' h3
      go_wp2
      go_roundw
      case rel => exact ⟨m', r + 1, a3, c3, put xs s, q2, by have := HM.out; omega, rfl, rfl, HO3.out, by omega, HPF.out, HR3.out, by omega, HK3.out⟩
      case measure => have := HM.out; simp [intOf]; omega
    · have hm0 : m = 0 := by omega
      subst hm0
      go_wp2_with fail
      refine (pick_any wr blk q 20 HR.out (by omega) (by omega)).mono ?_
      rintro e w4 ⟨v4, rfl, -, -, hr4, hk4⟩
      have HR4 : Hid (RdAt w4 blk (q + 1)) := hr4
      have HK4 : Hid (Kept blk w w4) := HK.out.trans hk4
      have HO4 : Hid (w4.ownsRow w.heap.size 9 1 (.slice (some a0) xs.length c0) xs.length (texts xs)) := owns_keptS HO.out hk4 hlt
      clear hr4 hk4
      cases h4 : (v4 == 0) with
      | false =>
        go_wp2_with fail
        refine (pick_any w4 blk (q + 1) 20 HR4.out (by omega) (by omega)).mono ?_
        rintro e w8 ⟨v8, rfl, -, -, hr8, hk8⟩
        have HR8 : Hid (RdAt w8 blk (q + 1 + 1)) := hr8
        have HK8 : Hid (Kept blk w w8) := HK4.out.trans hk8
        have HO8 := owns_keptS HO4.out hk8 hlt
        have hz8 : w.heap.size ≤ w8.heap.size := HK8.out.size
        have HO8' := Hid.mk460 HO8
        clear hr8 hk8 HO8
        cases h8 : (v8 == 0) with
        | true =>
          go_wp2
          go_ret
          exact ⟨_, tenW, rfl, owns_ten w8 _ _ hz8, by decide, tenW_short, ⟨_, HR8.out.alloc _, by omega⟩, HK8.out.alloc _⟩
        | false =>
          go_wp2
          go_ret
          exact ⟨_, xs, rfl, HO8'.out, by omega, HF.out, ⟨_, HR8.out, by omega⟩, HK8.out⟩
      | true =>
        go_wp2_with fail
        refine (l13AnyWord_any w4 blk (q + 1) HR4.out (by omega)).mono ?_
        rintro e w5 ⟨s, rfl, hs, ⟨q5, hr5, hq5⟩, hk5⟩
        have HR5 : Hid (RdAt w5 blk q5) := hr5
        have HK5 : Hid (Kept blk w w5) := HK4.out.trans hk5
        have HO5 : Hid (w5.ownsRow w.heap.size 9 1 (.slice (some a0) xs.length c0) xs.length (texts xs)) := owns_keptS HO4.out hk5 hlt
        have hs20 : s.size ≤ 20 := hs
        have hz5 : w.heap.size ≤ w5.heap.size := HK5.out.size
        clear hr5 hk5 hs
        go_wp2_with (at_builtin; refine wpList_append_own _ rfl _ _ 23 rfl w.heap.size 9 i3 (.string ⟨#[]⟩) 1 16 Try.underlying23 hi3 hz3 hs3 hb3 rfl (by decide) _ _ _ rfl (HO5.out.alloc _) ⟨_, 0, none⟩ 1 1 [.string s] rfl rfl (cell_one_new _ _ _) (one_text s) (by unfold maxLen; omega) (by omega) (by rw [World.size_alloc]; omega) ?_; intro v6 w6 hown hgrow hnil; have HB6 : Hid (Below w.heap.size w5 w6) := Below.grown (below_alloc460 w5 _ hz5) hgrow (by rw [World.size_alloc]; omega) (fun k' hk' => (HO5.out.lt k' hk').1); have HO6 : Hid (w6.ownsRow w.heap.size 9 1 v6 (xs ++ [s]).length (texts (xs ++ [s]))) := (by rw [List.length_append, texts_append]; exact hown); clear hown hgrow hnil)
        have HK6 : Hid (Kept blk w w6) := ⟨HB6.out.os.trans HK5.out.os, HB6.out.tape.trans HK5.out.tape, HB6.out.output.trans HK5.out.output, Nat.le_trans hz5 HB6.out.size, fun k hk hb => (HB6.out.block k hk).trans (HK5.out.block k hk hb)⟩
        have HR6 : Hid (RdAt w6 blk q5) := rdAt_lt460 HR5.out (fun k hk => HB6.out.block k (by omega))
        have HF6 : Hid (∀ x ∈ xs ++ [s], x.size ≤ 20) := fun x hx => (List.mem_append.1 hx).elim (fun h => HF.out x h) (fun h => by rw [List.mem_singleton.1 h]; exact hs20)
        have hl6 : (xs ++ [s]).length ≤ 4 := by rw [List.length_append]; simp; omega
        obtain ⟨ZS, hZS⟩ : ∃ z, xs ++ [s] = z := ⟨_, rfl⟩
        rw [hZS] at HO6 HF6 hl6
        clear hZS
        obtain ⟨b6, c6, rfl⟩ := owns_form HO6.out
        go_wp2_with fail
        refine (pick_any w6 blk (q5) 20 HR6.out (by omega) (by omega)).mono ?_
        rintro e w8 ⟨v8, rfl, -, -, hr8, hk8⟩
        have HR8 : Hid (RdAt w8 blk (q5 + 1)) := hr8
        have HK8 : Hid (Kept blk w w8) := HK6.out.trans hk8
        have HO8 := owns_keptS HO6.out hk8 hlt
        have hz8 : w.heap.size ≤ w8.heap.size := HK8.out.size
        have HO8' := Hid.mk460 HO8
        clear hr8 hk8 HO8
        cases h8 : (v8 == 0) with
        | true =>
          go_wp2
          go_ret
          exact ⟨_, tenW, rfl, owns_ten w8 _ _ hz8, by decide, tenW_short, ⟨_, HR8.out.alloc _, by omega⟩, HK8.out.alloc _⟩
        | false =>
          go_wp2
          go_ret
          exact ⟨_, ZS, rfl, HO8'.out, by omega, HF6.out, ⟨_, HR8.out, by omega⟩, HK8.out⟩
end Go.Proofs.Ytlmkilfffpdpfaa
