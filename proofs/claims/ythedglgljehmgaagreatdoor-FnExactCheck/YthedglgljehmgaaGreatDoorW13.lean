/-
  Texts in memory; what spec.l1Put does: a text among others, in order, once.
-/
import Derived.Test.YthedglgljehmgaaGreatDoorProg
import Derived.Test.YthedglgljehmgaaGreatDoorM4
import Derived.WalkKit
import Derived.WalkSpells
import Derived.WalkLawsBesides
import Derived.Lib.SmallJoins
import Derived.Deep.WholeRow
import Derived.Deep.AppendLies
import Derived.Deep.RegionHeld3
namespace Go.Proofs.YthedglgljehmgaaGreatDoor
open Go.RowKit
set_option linter.unusedVariables false
/-- A slice of texts that is not nil, from the head of its block on. -/
def TextRow (w : World) (v : Value) (ss : List ByteArray) : Prop :=
  ∃ g cap, v = .slice (some ⟨g, 0, none⟩) ss.length cap ∧ ss.length ≤ cap ∧ (∀ i s, ss[i]? = some s → w.cell? ⟨g, i, none⟩ = some (.string s)) ∧ ∃ cur, w.heap[g]? = some (.cells cur 9 (0, 0))
theorem lt_of_block {w : World} {g : Nat} {o : Obj} (h : w.heap[g]? = some o) : g < w.heap.size := by
  rcases Nat.lt_or_ge g w.heap.size with hlt | hge
  · exact hlt
  · rw [Array.getElem?_eq_none hge] at h; cases h
theorem TextRow.below {w w' : World} {v : Value} {ss : List ByteArray} (h : TextRow w v ss) (hb : Below w.heap.size w w') : TextRow w' v ss := by
  obtain ⟨g, cap, hv, hc, hcell, cur, hcur⟩ := h
  have hlt := lt_of_block hcur
  exact ⟨g, cap, hv, hc, fun i s hs => (hb.cell (p := ⟨g, i, none⟩) hlt).trans (hcell i s hs), cur, (hb.block g hlt).trans hcur⟩
/-- As cells. -/
def texts (ss : List ByteArray) : List Value := ss.map Value.string
theorem TextRow.of_owns {w : World} {B : Nat} {v : Value} {ss : List ByteArray} (h : w.ownsRow B 9 1 v ss.length (texts ss)) (hn : v ≠ .slice none 0 0) : TextRow w v ss := by
  rcases h.2 with ⟨h1, _⟩ | ⟨g, cap, cur, rfl, hB, hg, hnc, hm, hsz, htk⟩
  · exact absurd h1 hn
  · have hlt : g < w.heap.size := by
      rcases Nat.lt_or_ge g w.heap.size with hlt | hge
      · exact hlt
      · rw [Array.getElem?_eq_none hge] at hg; cases hg
    refine ⟨g, cap, rfl, hnc, fun i s hs => ?_, cur, hg⟩
    have hi : i < ss.length := (List.getElem?_eq_some_iff.1 hs).1
    rw [cell_of_row w g i cur _ _ hg]
    have : (cur.toList.take (ss.length * 1))[i]? = some (Value.string s) := by rw [htk]; simp [texts, hs]
    rw [List.getElem?_take_of_lt (by omega)] at this
    simpa using this
theorem texts_append (a b : List ByteArray) : texts (a ++ b) = texts a ++ texts b := by simp [texts]
theorem texts_one (ss : List ByteArray) : ∀ u ∈ texts ss, u.oneCell' = true := by
  intro u hu
  simp only [texts, List.mem_map] at hu
  obtain ⟨s, _, rfl⟩ := hu
  rfl
theorem Tryz.info_string : (Tryz.prog.info? 9).map (fun i => (i.zero, i.size, i.bytes)) = some (some (.string ⟨#[]⟩), 1, 16) := by kernel_rfl
theorem heap_first (w : World) (o o' : Obj) : ((w.alloc o).alloc o').heap[w.heap.size]? = some o := by
  rw [Below.heap_alloc _ _ _ (by simp)]; exact heap_alloc_last w o
theorem heap_second (w : World) (o o' : Obj) : ((w.alloc o).alloc o').heap[w.heap.size + 1]? = some o' := by
  have := heap_alloc_last (w.alloc o) o'
  simpa using this
theorem own_of_block {W : World} {B base : Nat} {e : TypeId} (h : W.heap[B]? = some (.cells #[] e (0, 0))) (hb : base ≤ B) : W.ownsRow base e 1 (.slice (some ⟨B, 0, none⟩) 0 0) 0 [] :=
  ⟨rfl, .inr ⟨B, 0, #[], rfl, hb, h, Nat.le_refl _, Nat.zero_le _, rfl, rfl⟩⟩
theorem below_grown' {B H : Nat} {a w w' : World} {v : Value} {e : TypeId} {n : Nat} {xs : List Value} (h : Below H a w) (hg : w.grownBy w' v.ownBlock) (ho : w.ownsRow B e 1 v n xs) (hH : H ≤ B) (hs : H ≤ w.heap.size) : Below H a w' :=
  h.grown hg hs (fun k hk => by have := (ho.lt k hk).1; omega)
theorem add_zero_at (b o j : Nat) : (⟨b, o, none⟩ : Addr).add j = ⟨b, o + j, none⟩ := by unfold Addr.add; split <;> simp_all
theorem news_take {w W : World} {g : Nat} {ss : List ByteArray} (hc : ∀ i s, ss[i]? = some s → w.cell? ⟨g, i, none⟩ = some (.string s)) (hg : g < w.heap.size) (hb : Below w.heap.size w W) (k : Nat) :
    ∀ j u, (texts (ss.take k))[j]? = some u → W.cell? ((⟨g, 0, none⟩ : Addr).add j) = some u := by
  intro j u hu
  simp only [texts, List.getElem?_map, Option.map_eq_some_iff] at hu
  obtain ⟨s, hs, rfl⟩ := hu
  rw [List.getElem?_take] at hs
  split at hs
  · rw [add_zero_at, Nat.zero_add, hb.cell (p := ⟨g, j, none⟩) hg]
    exact hc j s hs
  · cases hs
theorem news_drop {w W : World} {g : Nat} {ss : List ByteArray} (hc : ∀ i s, ss[i]? = some s → w.cell? ⟨g, i, none⟩ = some (.string s)) (hg : g < w.heap.size) (hb : Below w.heap.size w W) (k : Nat) :
    ∀ j u, (texts (ss.drop k))[j]? = some u → W.cell? ((⟨g, k, none⟩ : Addr).add j) = some u := by
  intro j u hu
  simp only [texts, List.getElem?_map, Option.map_eq_some_iff, List.getElem?_drop] at hu
  obtain ⟨s, hs, rfl⟩ := hu
  rw [add_zero_at, hb.cell (p := ⟨g, k + j, none⟩) hg]
  exact hc (k + j) s hs
theorem news_one {W w1 : World} {row : Option Nat} {B : Nat} {s : ByteArray} {t : TypeId} (hg : W.grownBy w1 row) (h : W.heap[B]? = some (.cells #[.string s] t (0, 0))) (hne : some B ≠ row) :
    ∀ j u, [Value.string s][j]? = some u → w1.cell? ((⟨B, 0, none⟩ : Addr).add j) = some u := by
  intro j u hu
  have h2 := hg.cell (a := ⟨B, j, none⟩) (v := u) (by rw [cell_of_row W B j _ _ _ h]; simpa using hu) hne
  rw [add_zero_at, Nat.zero_add]
  exact h2
theorem below_step {w W w1 : World} {v : Value} (h : Below w.heap.size w W) (hg : W.grownBy w1 v.ownBlock) (hr : ∀ k, v.ownBlock = some k → w.heap.size ≤ k) : Below w.heap.size w w1 := h.grown hg h.size hr
theorem block_ge {B H n c : Nat} (h : H ≤ B) : ∀ k, (Value.slice (some ⟨B, 0, none⟩) n c).ownBlock = some k → H ≤ k := by
  intro k hk
  simp [Value.ownBlock] at hk
  omega
theorem news_nil {W : World} {ss : List ByteArray} {k : Nat} (h : ss.length ≤ k) (ad : Addr) : ∀ j u, (texts (ss.drop k))[j]? = some u → W.cell? (ad.add j) = some u := by
  intro j u hu
  rw [List.drop_of_length_le h] at hu
  simp [texts] at hu
theorem ne_row1 (B n c : Nat) : some (B + 1) ≠ (Value.slice (some ⟨B, 0, none⟩) n c).ownBlock := by simp [Value.ownBlock]
theorem ne_row2 (B n c : Nat) : some B ≠ (Value.slice (some ⟨B + 1, 0, none⟩) n c).ownBlock := by simp [Value.ownBlock]
theorem one_text (s : ByteArray) : ∀ u ∈ [Value.string s], u.oneCell' = true := by intro u hu; simp at hu; subst hu; rfl
/-- append onto a slice that the call owns, as one step of a region that draws. -/
theorem step_append_own {P : Program} {w : World} {ops : Array Oper} {o : Oper} {a : Act} {K : Act → World → Prop} {Q : Exit → Act → World → Prop} {E : Prop} (hgd : o.guard = none) (s x : Operand) (t : TypeId)
    (ho : o.op = .call { callee := .builtin .append, args := #[s, x], argTypes := #[t, t] })
    (base : Nat) (e : TypeId) (i : TypeInfo) (z : Value) (size bytes : Nat) (ht : P.underlying t = some (.slice e)) (hi : P.info? e = some i) (hz : i.zero = some z)
    (hsize : i.size = size) (hby : i.bytes = bytes) (hzs : z.cells.size = size) (hsz : 0 < size)
    (v : Value) (n : Nat) (xs : List Value) (hs : a.eval s = v) (hown : w.ownsRow base e size v n xs)
    (ad : Addr) (m c : Nat) (news : List Value) (hx : a.eval x = .slice (some ad) m c) (hl : news.length = m * size) (hnews : ∀ j u, news[j]? = some u → w.cell? (ad.add j) = some u) (h1 : ∀ u ∈ news, u.oneCell' = true)
    (h63 : n + m ≤ maxLen) (hbytes : (n + m) * bytes ≤ 140737488355328) (hbase : base ≤ w.heap.size)
    (h : ∀ v' w', w'.ownsRow base e size v' (n + m) (xs ++ news) → w.grownBy w' v.ownBlock → (v' = .slice none 0 0 ↔ v = .slice none 0 0 ∧ m = 0) → K (a.put o.dst v') w') :
    if Region.wanted o (yielded ops a.tmps) = true then Oper.wp P o a w K Q else E := by
  have hw : Region.wanted o (yielded ops a.tmps) = true := by simp [Region.wanted, hgd]
  rw [if_pos hw]
  exact wp_append_own w s x t ho base e i z size bytes ht hi hz hsize hby hzs hsz v n xs hs hown ad m c news hx hl hnews h1 h63 hbytes hbase h
set_option maxRecDepth 100000 in
set_option maxHeartbeats 1000000 in
theorem l1PutOwn_any (w : World) (v : Value) (ss : List ByteArray) (s : ByteArray) (h : TextRow w v ss) (hn : ss.length ≤ 100000) :
    Calls Tryz.prog 60 #[v, .string s] w fun e w' => ∃ v', e = .returned v' ∧ ((v' = v ∧ put ss s = ss ∧ w' = w) ∨ (w'.ownsRow w.heap.size 9 1 v' (put ss s).length (texts (put ss s)) ∧ v' ≠ .slice none 0 0)) ∧ Below w.heap.size w w' := by
  have HT : Hid (TextRow w v ss) := h
  obtain ⟨g, cap, rfl, hcap, hcell, cur, hcur⟩ := h
  have hg := lt_of_block hcur
  clear hcur cur
  have HC : Hid (∀ i s, ss[i]? = some s → w.cell? ⟨g, i, none⟩ = some (.string s)) := hcell
  obtain ⟨i3, hi3, hz3, hs3, hb3⟩ := info_parts Tryz.info_string
  clear hcell
  go_enter Tryz.func60, Tryz.ntmps60
  go_wp2
  go_loop [5] (fun c => ∃ k : Nat, k ≤ ss.length ∧ c = .int .i64 k ∧ ∀ j x, j < k → ss[j]? = some x → tlt x s = true) (fun c => ss.length - (intOf c).toNat)
  case atStart => exact ⟨0, Nat.zero_le _, rfl, fun j x hj => absurd hj (by omega)⟩
  case round =>
    obtain ⟨k, hk, rfl, hall⟩ := hrel
    have HA : Hid (∀ j x, j < k → ss[j]? = some x → tlt x s = true) := hall
    clear hall
    by_cases hlt : k < ss.length
    · obtain ⟨x, hx⟩ : ∃ x, ss[k]? = some x := ⟨_, List.getElem?_eq_getElem hlt⟩
      have hcx := HC.out k x hx
      have HX : Hid (ss[k]? = some x) := hx
      clear hx
      cases hlx : Op.bytesLess x.toList s.toList with
      | true =>
        go_wp2
        go_round
        case rel =>
          refine ⟨k + 1, by omega, by go_num, fun j y hj hy => ?_⟩
          by_cases e : j = k
          · subst e
            rw [HX.out] at hy
            cases hy
            exact hlx
          · exact HA.out j y (by omega) hy
        case measure => simp [intOf]; omega
      | false =>
        cases heq : (x.toList == s.toList) with
        | true =>
          have HP : Hid (put ss s = ss) := by
            have hxs : x = s := toList_inj' (by simpa using heq)
            have := put_at ss s k hk HA.out (.inr ⟨x, HX.out, hlx⟩)
            rw [HX.out, hxs, if_pos rfl] at this
            exact this
          go_wp2
          go_ret
          exact ⟨_, rfl, .inl ⟨rfl, HP.out, rfl⟩, Below.refl _ _⟩
        | false =>
          have HP : Hid (put ss s = ss.take k ++ s :: ss.drop k) := by
            have hxs : x ≠ s := by rintro rfl; simp at heq
            have := put_at ss s k hk HA.out (.inr ⟨x, HX.out, hlx⟩)
            rw [HX.out, if_neg (by simpa using hxs)] at this
            exact this
          have ek : (k : Int) ≤ (ss.length : Int) := by omega
          have ec : (ss.length : Int) ≤ (cap : Int) := by omega
          have ek' : (k : Int) ≤ (cap : Int) := by omega
          have hck : ¬ cap = k := by omega
          go_wp2
          go_region_held3 (fun w' => True) (trivial)
            (first
              | (refine step_append_own rfl (.tmp 33) (.tmp 36) 53 rfl w.heap.size 9 i3 (.string ⟨#[]⟩) 1 16 Tryz.underlying53 hi3 hz3 hs3 hb3 rfl (by decide) (.slice (some ⟨_, 0, none⟩) 0 0) 0 [] rfl (by first | exact own_of_block (heap_alloc_last _ _) (Nat.le_refl _) | exact own_of_block (heap_first _ _ _) (Nat.le_refl _) | exact own_of_block (heap_second _ _ _) (by omega)) ⟨g, 0, none⟩ k cap (texts (ss.take k)) rfl (by simp [texts]; omega) (by refine news_take HC.out hg ?_ k; repeat (first | exact Below.refl _ _ | refine Below.drew ?_ | refine Below.alloc ?_ (by simp <;> omega) _)) (texts_one _) (by unfold maxLen; omega) (by omega) (by simp <;> omega) ?_; intro v1 w1 hown1 hgrow1 hnil1; have hb1 : Below w.heap.size w w1 := below_step (by repeat (first | exact Below.refl _ _ | refine Below.drew ?_ | refine Below.alloc ?_ (by simp <;> omega) _)) hgrow1 (block_ge (by omega)))
              | (refine step_append_own rfl (.tmp 37) (.tmp 39) 53 rfl w.heap.size 9 i3 (.string ⟨#[]⟩) 1 16 Tryz.underlying53 hi3 hz3 hs3 hb3 rfl (by decide) _ (0 + k) _ rfl (by first | exact hown1 | exact World.ownsRow.alloc hown1 _) ⟨_, 0, none⟩ 1 1 [.string s] rfl rfl (by first | exact news_one hgrow1 (heap_second _ _ _) (ne_row1 _ _ _) | exact news_one hgrow1 (heap_first _ _ _) (ne_row2 _ _ _) | exact cell_one_new _ _ _) (one_text s) (by unfold maxLen; omega) (by omega) (by have := hb1.size; simp <;> omega) ?_; intro v2 w2 hown2 hgrow2 hnil2; have hb2 : Below w.heap.size w w2 := (by refine Below.grown ?_ hgrow2 (by have := hb1.size; simp <;> omega) (fun k' hk' => (World.ownsRow.lt hown1 k' hk').1); first | exact hb1 | exact hb1.alloc (by have := hb1.size; omega) _))
              | (refine step_append_own rfl (.tmp 40) (.tmp 43) 53 rfl w.heap.size 9 i3 (.string ⟨#[]⟩) 1 16 Tryz.underlying53 hi3 hz3 hs3 hb3 rfl (by decide) _ (0 + k + 1) _ rfl (by exact hown2) _ (ss.length - k) (cap - k) (texts (ss.drop k)) rfl (by simp [texts]) (by first | exact news_drop HC.out hg hb2 k | exact news_nil (by omega) _) (texts_one _) (by unfold maxLen; omega) (by omega) (by have := hb2.size; omega) ?_; intro v3 w3 hown3 hgrow3 hnil3; have hb3' : Below w.heap.size w w3 := Below.grown hb2 hgrow3 (by have := hb2.size; omega) (fun k' hk' => (World.ownsRow.lt hown2 k' hk').1)))
          all_goals
            go_wp2
            go_ret
            rw [HP.out]
            refine ⟨_, rfl, .inr ⟨?_, fun e => ?_⟩, hb3'⟩
            · have hl : (ss.take k ++ s :: ss.drop k).length = 0 + k + 1 + (ss.length - k) := by simp; omega
              rw [hl, show ss.take k ++ s :: ss.drop k = [] ++ ss.take k ++ [s] ++ ss.drop k by simp, texts_append, texts_append, texts_append]
              exact hown3
            · have h1 := (hnil3.1 e).1
              have h2 := (hnil2.1 h1).2
              cases h2
    · have HP : Hid (put ss s = ss.take k ++ s :: ss.drop k) := by
        have := put_at ss s k hk HA.out (.inl (by omega))
        rw [List.getElem?_eq_none (by omega), if_neg (by simp)] at this
        exact this
      have ek : (k : Int) ≤ (ss.length : Int) := by omega
      have ec : (ss.length : Int) ≤ (cap : Int) := by omega
      have ek' : (k : Int) ≤ (cap : Int) := by omega
      by_cases hck : cap = k
      · have hck' : k = cap := hck.symm
        clear hck
        subst hck'
        go_wp2
        go_region_held3 (fun w' => True) (trivial)
          (first
            | (refine step_append_own rfl (.tmp 33) (.tmp 36) 53 rfl w.heap.size 9 i3 (.string ⟨#[]⟩) 1 16 Tryz.underlying53 hi3 hz3 hs3 hb3 rfl (by decide) (.slice (some ⟨_, 0, none⟩) 0 0) 0 [] rfl (by first | exact own_of_block (heap_alloc_last _ _) (Nat.le_refl _) | exact own_of_block (heap_first _ _ _) (Nat.le_refl _) | exact own_of_block (heap_second _ _ _) (by omega)) ⟨g, 0, none⟩ k k (texts (ss.take k)) rfl (by simp [texts]; omega) (by refine news_take HC.out hg ?_ k; repeat (first | exact Below.refl _ _ | refine Below.drew ?_ | refine Below.alloc ?_ (by simp <;> omega) _)) (texts_one _) (by unfold maxLen; omega) (by omega) (by simp <;> omega) ?_; intro v1 w1 hown1 hgrow1 hnil1; have hb1 : Below w.heap.size w w1 := below_step (by repeat (first | exact Below.refl _ _ | refine Below.drew ?_ | refine Below.alloc ?_ (by simp <;> omega) _)) hgrow1 (block_ge (by omega)))
            | (refine step_append_own rfl (.tmp 37) (.tmp 39) 53 rfl w.heap.size 9 i3 (.string ⟨#[]⟩) 1 16 Tryz.underlying53 hi3 hz3 hs3 hb3 rfl (by decide) _ (0 + k) _ rfl (by first | exact hown1 | exact World.ownsRow.alloc hown1 _) ⟨_, 0, none⟩ 1 1 [.string s] rfl rfl (by first | exact news_one hgrow1 (heap_second _ _ _) (ne_row1 _ _ _) | exact news_one hgrow1 (heap_first _ _ _) (ne_row2 _ _ _) | exact cell_one_new _ _ _) (one_text s) (by unfold maxLen; omega) (by omega) (by have := hb1.size; simp <;> omega) ?_; intro v2 w2 hown2 hgrow2 hnil2; have hb2 : Below w.heap.size w w2 := (by refine Below.grown ?_ hgrow2 (by have := hb1.size; simp <;> omega) (fun k' hk' => (World.ownsRow.lt hown1 k' hk').1); first | exact hb1 | exact hb1.alloc (by have := hb1.size; omega) _))
            | (refine step_append_own rfl (.tmp 40) (.tmp 43) 53 rfl w.heap.size 9 i3 (.string ⟨#[]⟩) 1 16 Tryz.underlying53 hi3 hz3 hs3 hb3 rfl (by decide) _ (0 + k + 1) _ rfl (by exact hown2) ⟨g, 0, none⟩ 0 0 [] rfl rfl (fun j u hu => by simp at hu) (fun u hu => by simp at hu) (by unfold maxLen; omega) (by omega) (by have := hb2.size; omega) ?_; intro v3 w3 hown3 hgrow3 hnil3; have hb3' : Below w.heap.size w w3 := Below.grown hb2 hgrow3 (by have := hb2.size; omega) (fun k' hk' => (World.ownsRow.lt hown2 k' hk').1)))
        all_goals
          go_wp2
          go_ret
          rw [HP.out]
          refine ⟨_, rfl, .inr ⟨?_, fun e => ?_⟩, hb3'⟩
          · have hl : (ss.take k ++ s :: ss.drop k).length = 0 + k + 1 + 0 := by simp; omega
            rw [hl, List.drop_of_length_le (by omega), show ss.take k ++ [s] = [] ++ ss.take k ++ [s] ++ [] by simp, texts_append, texts_append, texts_append]
            exact hown3
          · have h1 := (hnil3.1 e).1
            have h2 := (hnil2.1 h1).2
            cases h2
      ·
        go_wp2
        go_region_held3 (fun w' => True) (trivial)
          (first
            | (refine step_append_own rfl (.tmp 33) (.tmp 36) 53 rfl w.heap.size 9 i3 (.string ⟨#[]⟩) 1 16 Tryz.underlying53 hi3 hz3 hs3 hb3 rfl (by decide) (.slice (some ⟨_, 0, none⟩) 0 0) 0 [] rfl (by first | exact own_of_block (heap_alloc_last _ _) (Nat.le_refl _) | exact own_of_block (heap_first _ _ _) (Nat.le_refl _) | exact own_of_block (heap_second _ _ _) (by omega)) ⟨g, 0, none⟩ k cap (texts (ss.take k)) rfl (by simp [texts]; omega) (by refine news_take HC.out hg ?_ k; repeat (first | exact Below.refl _ _ | refine Below.drew ?_ | refine Below.alloc ?_ (by simp <;> omega) _)) (texts_one _) (by unfold maxLen; omega) (by omega) (by simp <;> omega) ?_; intro v1 w1 hown1 hgrow1 hnil1; have hb1 : Below w.heap.size w w1 := below_step (by repeat (first | exact Below.refl _ _ | refine Below.drew ?_ | refine Below.alloc ?_ (by simp <;> omega) _)) hgrow1 (block_ge (by omega)))
            | (refine step_append_own rfl (.tmp 37) (.tmp 39) 53 rfl w.heap.size 9 i3 (.string ⟨#[]⟩) 1 16 Tryz.underlying53 hi3 hz3 hs3 hb3 rfl (by decide) _ (0 + k) _ rfl (by first | exact hown1 | exact World.ownsRow.alloc hown1 _) ⟨_, 0, none⟩ 1 1 [.string s] rfl rfl (by first | exact news_one hgrow1 (heap_second _ _ _) (ne_row1 _ _ _) | exact news_one hgrow1 (heap_first _ _ _) (ne_row2 _ _ _) | exact cell_one_new _ _ _) (one_text s) (by unfold maxLen; omega) (by omega) (by have := hb1.size; simp <;> omega) ?_; intro v2 w2 hown2 hgrow2 hnil2; have hb2 : Below w.heap.size w w2 := (by refine Below.grown ?_ hgrow2 (by have := hb1.size; simp <;> omega) (fun k' hk' => (World.ownsRow.lt hown1 k' hk').1); first | exact hb1 | exact hb1.alloc (by have := hb1.size; omega) _))
            | (refine step_append_own rfl (.tmp 40) (.tmp 43) 53 rfl w.heap.size 9 i3 (.string ⟨#[]⟩) 1 16 Tryz.underlying53 hi3 hz3 hs3 hb3 rfl (by decide) _ (0 + k + 1) _ rfl (by exact hown2) _ (ss.length - k) (cap - k) (texts (ss.drop k)) rfl (by simp [texts]) (by first | exact news_drop HC.out hg hb2 k | exact news_nil (by omega) _) (texts_one _) (by unfold maxLen; omega) (by omega) (by have := hb2.size; omega) ?_; intro v3 w3 hown3 hgrow3 hnil3; have hb3' : Below w.heap.size w w3 := Below.grown hb2 hgrow3 (by have := hb2.size; omega) (fun k' hk' => (World.ownsRow.lt hown2 k' hk').1)))
        all_goals
          go_wp2
          go_ret
          rw [HP.out]
          refine ⟨_, rfl, .inr ⟨?_, fun e => ?_⟩, hb3'⟩
          · have hl : (ss.take k ++ s :: ss.drop k).length = 0 + k + 1 + (ss.length - k) := by simp; omega
            rw [hl, show ss.take k ++ s :: ss.drop k = [] ++ ss.take k ++ [s] ++ ss.drop k by simp, texts_append, texts_append, texts_append]
            exact hown3
          · have h1 := (hnil3.1 e).1
            have h2 := (hnil2.1 h1).2
            cases h2
theorem l1Put_any (w : World) (v : Value) (ss : List ByteArray) (s : ByteArray) (h : TextRow w v ss) (hn : ss.length ≤ 100000) :
    Calls Tryz.prog 60 #[v, .string s] w fun e w' => ∃ v', e = .returned v' ∧ TextRow w' v' (put ss s) ∧ Below w.heap.size w w' := by
  refine (l1PutOwn_any w v ss s h hn).mono ?_
  rintro e w' ⟨v', rfl, h1, hb⟩
  refine ⟨v', rfl, ?_, hb⟩
  rcases h1 with ⟨rfl, hp, rfl⟩ | ⟨ho, hn⟩
  · rw [hp]; exact h
  · exact TextRow.of_owns ho hn
end Go.Proofs.YthedglgljehmgaaGreatDoor
