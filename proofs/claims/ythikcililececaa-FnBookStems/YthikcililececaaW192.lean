/-
  FnBookStems.
-/
import Derived.Test.YthikcililececaaW190
import Derived.Test.YthikcililececaaW177
import Derived.Test.YthikcililececaaW155
namespace Go.Proofs.Ythikcililececaa
open Go.RowKit
set_option linter.unusedVariables false
/-- An operation is taken first; the slot that it writes is told. -/
theorem wpAnyH_takeD {P : Program} {md : Region.Mode} {ops : Array Oper} {Q : Exit → Act → World → Prop} {S : World → Prop} {i d : Nat} {oi : Oper} {v : Value} {fuel : Nat} {listed : Array Bool} {a : Act} {w : World} (hi : ops[i]? = some oi)
    (hs : Region.noSelect ops = true) (hf : Region.free md ops listed i = true) (hr : (Region.ready md ops listed).contains i = true)
    (hQ : ∀ c a w, Q (.panic c) (a.put oi.dst v) w → Q (.panic c) a w) (hy : YieldsIf P ops S oi v a) (hS : S w) (hd : oi.dst = some d)
    (h : wpAnyH P md ops Q S fuel (listed.setIfInBounds i true) (a.put (some d) v) w) : wpAnyH P md ops Q S (fuel + 1) listed a w :=
  wpAnyH_take hi hs hf hr hQ hy hS (by rw [hd]; exact h)
/-- A box of two slices is no row of affixes or entries. -/
theorem box_slice {w : World} {B o : Nat} {t : TypeId} {fz : Nat × Nat} {a0 a1 : Option Addr} {n0 n1 k0 k1 : Nat} {x : ByteArray} (hB : w.heap[B]? = some (.cells #[.slice a0 n0 k0, .slice a1 n1 k1] t fz)) (h : w.cell? ⟨B, o, none⟩ = some (.string x)) : False := by
  rw [cell_of_row _ _ o _ _ _ hB] at h
  match o with
  | 0 => simp at h
  | 1 => simp at h
  | o + 2 => simp at h
theorem affs_box {w : World} {B o : Nat} {t : TypeId} {fz : Nat × Nat} {a0 a1 : Option Addr} {n0 n1 k0 k1 : Nat} {v : Value} {xs : List Aff} (h : AffsAt w v xs) (hB : w.heap[B]? = some (.cells #[.slice a0 n0 k0, .slice a1 n1 k1] t fz)) (u : Value) : AffsAt (w.setCell ⟨B, o, none⟩ u) v xs := by
  by_cases hx : xs = []
  · obtain ⟨a, cap, rfl, h1, h2, h3, _⟩ := h
    exact ⟨a, cap, rfl, h1, h2, h3, fun hn => absurd hx hn⟩
  · obtain ⟨a, cap, rfl, h1, h2, h3, h4⟩ := id h
    obtain ⟨b, off, rfl, hb, hc⟩ := h4 hx
    refine h.set (fun e => ?_) u
    obtain ⟨y, ys, rfl⟩ := List.exists_cons_of_ne_nil hx
    have h0 := (hc 0 y rfl).1
    subst e
    exact box_slice hB h0
theorem ents_box {w : World} {B o : Nat} {t : TypeId} {fz : Nat × Nat} {a0 a1 : Option Addr} {n0 n1 k0 k1 : Nat} {v : Value} {xs : List (ByteArray × ByteArray)} (h : EntsAt w v xs) (hB : w.heap[B]? = some (.cells #[.slice a0 n0 k0, .slice a1 n1 k1] t fz)) (u : Value) : EntsAt (w.setCell ⟨B, o, none⟩ u) v xs := by
  by_cases hx : xs = []
  · obtain ⟨a, cap, rfl, h1, h2, h3, _⟩ := h
    exact ⟨a, cap, rfl, h1, h2, h3, fun hn => absurd hx hn⟩
  · obtain ⟨a, cap, rfl, h1, h2, h3, h4⟩ := id h
    obtain ⟨b, off, rfl, hb, hc⟩ := h4 hx
    refine h.set (fun e => ?_) u
    obtain ⟨y, ys, rfl⟩ := List.exists_cons_of_ne_nil hx
    have h0 := (hc 0 y rfl).1
    subst e
    exact box_slice hB h0
set_option maxRecDepth 100000 in
set_option maxHeartbeats 1000000 in
theorem drawBookStems_any (w : World) (a : Option Addr) (len cap : Nat) (zs : List Int) (h : IsRow .u8 w a len cap zs) :
    Calls Try.prog 19 #[.slice a len cap] w fun e w' => ∃ (va ve : Value) (xs : List Aff) (es : List (ByteArray × ByteArray)) (s : ByteArray), e = .returned (.tuple #[.agg #[va, ve], .string s]) ∧ AffsAt w' va xs ∧ EntsAt w' ve es ∧ s.size ≤ 20 ∧ xs.length ≤ 5 ∧ es.length ≤ 25 ∧ Below w.heap.size w w' := by
  have HI : Hid (IsRow .u8 w a len cap zs) := h
  clear h
  go_enter Try.func19, Try.ntmps19
  go_wp2_with fail
  obtain ⟨w0, hw0⟩ : ∃ x, w.alloc (.cells #[.slice none 0 0, .slice none 0 0] 40) = x := ⟨_, rfl⟩
  have HI0 : Hid (IsRow .u8 w0 a len cap zs) := by rw [← hw0]; exact HI.out.keep ((Below.refl w.heap.size w).alloc (Nat.le_refl _) _)
  have HR0 : Hid (w0.heap[w.heap.size]? = some (.cells #[.slice none 0 0, .slice none 0 0] 40 (0, 0))) := by show _ = _; rw [← hw0]; exact heap_alloc_last w _
  have HB0 : Hid (Below w.heap.size w w0) := by rw [← hw0]; exact (Below.refl w.heap.size w).alloc (Nat.le_refl _) _
  have hz0 : w0.heap.size = w.heap.size + 1 := by rw [← hw0]; simp
  rw [hw0]
  clear hw0
  refine (drawBookKnows_any w0 a len cap zs HI0.out).mono ?_
  rintro e w2 ⟨va, ve, xs, es, s, rfl, hva, hve, hs, hx, he, -, -, hb⟩
  obtain ⟨b0, c0, rfl, -⟩ := hva.form
  obtain ⟨b1, c1, rfl, -⟩ := hve.form
  have hRb : w2.heap[w.heap.size]? = some (.cells #[.slice none 0 0, .slice none 0 0] 40 (0, 0)) := (hb.block w.heap.size (by omega)).trans HR0.out
  have HB2 : Hid (Below w.heap.size w w2) := HB0.out.trans (hb.mono (by omega))
  have HRB : Hid (w2.heap[w.heap.size]? = some (.cells #[.slice none 0 0, .slice none 0 0] 40 (0, 0))) := hRb
  have HA : Hid (AffsAt w2 (.slice b0 xs.length c0) xs) := hva
  have HE : Hid (EntsAt w2 (.slice b1 es.length c1) es) := hve
  have r0 : w2.cell? ⟨w.heap.size, 0, none⟩ = some (.slice none 0 0) := by rw [cell_of_row _ _ 0 _ _ _ hRb]; rfl
  have r1 : w2.cell? ⟨w.heap.size, 1, none⟩ = some (.slice none 0 0) := by rw [cell_of_row _ _ 1 _ _ _ hRb]; rfl
  have u0 := Go.Joins.unfrozen_of_block hRb 0
  have u1 := Go.Joins.unfrozen_of_block hRb 1
  clear hRb hb hva hve
  go_wp2
  have HR1 := set_box0 HRB.out (.slice b0 xs.length c0)
  refine bodyPost_ret (v := .tuple #[.agg #[.slice b0 xs.length c0, .slice b1 es.length c1], .string s]) (by simp [results, Try.results19, go_sem, r0, r1]) rfl ⟨_, _, xs, es, s, rfl, ?_, ?_, hs, hx, he, (HB2.out.setCell (Nat.le_refl _) _).setCell (Nat.le_refl _) _⟩
  · exact affs_box (affs_box HA.out HRB.out _) HR1 _
  · exact ents_box (ents_box HE.out HRB.out _) HR1 _
set_option maxRecDepth 100000 in
set_option maxHeartbeats 2000000 in
theorem fnBookStems_walk (a : Option Addr) (len cap : Nat) (zs : List Int) (w : World) (h : IsRow .u8 w a len cap zs) :
    Calls Try.prog 5 #[.slice a len cap] w fun e w' => e = .returned (.bool true) ∧ Below w.heap.size w w' := by
  by_cases h1 : (1048576 : Int) < (len : Int)
  · clear h
    go_enter Try.func5, Try.ntmps5
    go_wp2
    go_ret
    exact ⟨rfl, Below.refl _ _⟩
  have HI : Hid (IsRow .u8 w a len cap zs) := h
  clear h
  go_enter Try.func5, Try.ntmps5
  go_wp2_with fail
  refine (drawBookStems_any w a len cap zs HI.out).mono ?_
  rintro e w1 ⟨va, ve, xs, es, s, rfl, hva, hve, hs20, hx5, he25, hb1⟩
  have HM : Hid (s.size ≤ maxLen) := by show _ ≤ _; unfold maxLen; omega
  obtain ⟨b0, c0, rfl, -⟩ := hva.form
  obtain ⟨b1, c1, rfl, -⟩ := hve.form
  obtain ⟨w2, hw2⟩ : ∃ x, w1.alloc (.cells #[.slice b0 xs.length c0, .slice b1 es.length c1] 40) = x := ⟨_, rfl⟩
  have hb12 : Below w1.heap.size w1 w2 := by rw [← hw2]; exact (Below.refl w1.heap.size w1).alloc (Nat.le_refl _) _
  have HA : Hid (AffsAt w2 (.slice b0 xs.length c0) xs) := hva.below hb12
  have HE : Hid (EntsAt w2 (.slice b1 es.length c1) es) := hve.below hb12
  have HB2 : Hid (Below w.heap.size w w2) := hb1.trans (hb12.mono hb1.size)
  have hz2 : w1.heap.size < w2.heap.size := by rw [← hw2]; simp
  have hbx : w2.heap[w1.heap.size]? = some (.cells #[.slice b0 xs.length c0, .slice b1 es.length c1] 40 (0, 0)) := by rw [← hw2]; exact heap_alloc_last w1 _
  have HX : Hid (∀ w', Below w2.heap.size w2 w' → w'.cell? ⟨w1.heap.size, 0, none⟩ = some (.slice b0 xs.length c0) ∧ w'.cell? ⟨w1.heap.size, 1, none⟩ = some (.slice b1 es.length c1)) := fun w' hb => ⟨by rw [cell_of_row _ _ 0 _ _ _ ((hb.block _ hz2).trans hbx)]; rfl, by rw [cell_of_row _ _ 1 _ _ _ ((hb.block _ hz2).trans hbx)]; rfl⟩
  clear hva hve hb1 hb12 hbx
  obtain ⟨x0, x1⟩ := HX.out w2 (Below.refl _ _)
  go_wp2_with fail
  clear hw2
  refine (implBookStems_any w2 _ _ xs es s HA.out HE.out HM.out).mono ?_
  rintro e w3 ⟨v3, rfl, ht3, hb3⟩
  have HB3 : Hid (Below w2.heap.size w2 w3) := hb3
  have hws := stemsT_small xs es s
  obtain ⟨W, hW⟩ : ∃ W, stemsT xs es s = W := ⟨_, rfl⟩
  rw [hW] at ht3 hws
  have HT3 : Hid (TextsAt w3 v3 W) := ht3.at
  obtain ⟨a3, c3, rfl, hc3, -⟩ := ht3.at.form
  have HWW : Hid (stemsT xs es s = W) := hW
  clear hb3 x0 x1 ht3 hW
  obtain ⟨x0, x1⟩ := HX.out w3 HB3.out
  go_wp2_with fail
  refine (specBookStems_any w3 _ _ xs es s (HA.out.below HB3.out) (HE.out.below HB3.out)).mono ?_
  rintro e w4 ⟨v4, rfl, ht4, hb4'⟩
  rw [HWW.out] at ht4
  obtain ⟨a4, c4, rfl, -⟩ := ht4.form
  have HT4 : Hid (TextsAt w4 (.slice a4 W.length c4) W) := ht4
  have HC4 : Hid (Below w3.heap.size w3 w4) := hb4'
  have HB4 : Hid (Below w2.heap.size w2 w4) := HB3.out.trans (hb4'.mono HB3.out.size)
  clear hb4' ht4 x0 x1
  obtain ⟨x0, x1⟩ := HX.out w4 HB4.out
  go_wp2_with fail
  refine (mdTexts_same _ _ _ W (HT3.out.below HC4.out) HT4.out).mono ?_
  rintro e w5 ⟨rfl, hb5⟩
  have HC5 : Hid (Below w3.heap.size w3 w5) := HC4.out.trans (hb5.mono HC4.out.size)
  have HB5 : Hid (Below w2.heap.size w2 w5) := HB4.out.trans (hb5.mono HB4.out.size)
  clear hb5 x0 x1
  obtain ⟨x0, x1⟩ := HX.out w5 HB5.out
  go_wp2_with fail
  refine (specBookOk_any w5 _ _ xs es (HA.out.below HB5.out) (HE.out.below HB5.out)).mono ?_
  rintro e w6 ⟨rfl, hb6⟩
  have HC6 : Hid (Below w3.heap.size w3 w6) := HC5.out.trans (hb6.mono HC5.out.size)
  have HB6 : Hid (Below w2.heap.size w2 w6) := HB5.out.trans (hb6.mono HB5.out.size)
  clear hb6 x0 x1
  obtain ⟨x0, x1⟩ := HX.out w6 HB6.out
  cases hbk : bookT xs es with
  | false =>
    go_wp2_with fail
    refine (specBookStems_any w6 _ _ xs es s (HA.out.below HB6.out) (HE.out.below HB6.out)).mono ?_
    rintro e w7 ⟨v7, rfl, ht7, hb7⟩
    rw [HWW.out] at ht7
    obtain ⟨a7, c7, rfl, -⟩ := ht7.form
    have HT7 : Hid (TextsAt w7 (.slice a7 W.length c7) W) := ht7
    have HC7 : Hid (Below w3.heap.size w3 w7) := HC6.out.trans (hb7.mono HC6.out.size)
    have HB7 : Hid (Below w2.heap.size w2 w7) := HB6.out.trans (hb7.mono HB6.out.size)
    clear hb7 ht7 x0 x1
    go_wp2_with fail
    refine (mdTexts_same _ _ _ W (HT3.out.below HC7.out) HT7.out).mono ?_
    rintro e w8 ⟨rfl, hb8⟩
    have HB8 : Hid (Below w2.heap.size w2 w8) := HB7.out.trans (hb8.mono HB7.out.size)
    clear hb8
    go_wp2
    go_ret
    exact ⟨rfl, HB2.out.trans (HB8.out.mono HB2.out.size)⟩
  | true =>
    have HBK : Hid (bookT xs es = true) := hbk
    clear x0 x1 hbk
    go_wp2
    go_loopw [6] (fun i wr => ∃ (k : Nat), k ≤ es.length ∧ i = .int .i64 k ∧ Below w6.heap.size w6 wr) (fun i _ => es.length - (intOf i).toNat)
    case atStart => exact ⟨0, Nat.zero_le _, rfl, Below.refl _ _⟩
    case round =>
      obtain ⟨k, hk, rfl, hb⟩ := hrel
      have HB : Hid (Below w2.heap.size w2 wr) := HB6.out.trans (hb.mono HB6.out.size)
      have HC : Hid (Below w3.heap.size w3 wr) := HC6.out.trans (hb.mono HC6.out.size)
      have HB6r : Hid (Below w6.heap.size w6 wr) := hb
      clear hb
      obtain ⟨x0, x1⟩ := HX.out wr HB.out
      by_cases hlt : k < es.length
      · obtain ⟨b, off, cap2, x, hv, hbl, hx, hxf, e0, e1⟩ := (HE.out.below HB.out).at hlt
        cases hv
        obtain ⟨st, fl⟩ := x
        have HXk : Hid (es[k]? = some (st, fl)) := hx
        simp only at e0 e1 hxf
        have HXF : Hid (st.size ≤ maxLen ∧ fl.size ≤ maxLen) := hxf
        have i0 : (0 : Int) ≤ (k : Int) := by omega
        have i1 : (k : Int) < (es.length : Int) := by omega
        have HMK : Hid (memT W st = memT (formsT xs st fl) s) := by show _ = _; rw [memT_hasW2, memT_hasW2, ← HWW.out]; exact stem_makes HBK.out HXk.out s
        clear hx hxf
        obtain ⟨w7, hw7⟩ : ∃ x, wr.alloc (.cells #[.string st, .string fl] 25) = x := ⟨_, rfl⟩
        have HR7 : Hid (Below wr.heap.size wr w7) := by rw [← hw7]; exact (Below.refl _ _).alloc (Nat.le_refl _) _
        have HB7 : Hid (Below w2.heap.size w2 w7) := HB.out.trans (HR7.out.mono HB.out.size)
        have HC7 : Hid (Below w3.heap.size w3 w7) := HC.out.trans (HR7.out.mono HC.out.size)
        have HEb : Hid (w7.heap[wr.heap.size]? = some (.cells #[.string st, .string fl] 25 (0, 0))) := by show _ = _; rw [← hw7]; exact heap_alloc_last wr _
        have hz7 : wr.heap.size < w7.heap.size := lt_of_block HEb.out
        have hz1 : w1.heap.size < w7.heap.size := Nat.lt_of_lt_of_le hz2 HB7.out.size
        have HY : Hid (∀ w', Below w7.heap.size w7 w' → (w'.cell? ⟨w1.heap.size, 0, none⟩ = some (.slice b0 xs.length c0) ∧ w'.cell? ⟨wr.heap.size, 0, none⟩ = some (.string st) ∧ w'.cell? ⟨wr.heap.size, 1, none⟩ = some (.string fl))) := fun w' hb => ⟨(HX.out w' (HB7.out.trans (hb.mono HB7.out.size))).1, by rw [cell_of_row _ _ 0 _ _ _ ((hb.block _ hz7).trans HEb.out)]; rfl, by rw [cell_of_row _ _ 1 _ _ _ ((hb.block _ hz7).trans HEb.out)]; rfl⟩
        obtain ⟨y0, y1, y2⟩ := HY.out w7 (Below.refl _ _)
        obtain ⟨mk, hmk⟩ : ∃ m, memT W st = m := ⟨_, rfl⟩
        have HM1 : Hid (memT W st = mk) := hmk
        have HM2 : Hid (memT (formsT xs st fl) s = mk) := by show _ = _; rw [← HMK.out]; exact hmk
        clear hmk
        have HD7 : Hid (Below w7.heap.size w7 w7.drew) := (Below.refl _ _).drew
        cases heq : (st.toList == s.toList) with
        | true =>
          have hss : st = s := toList_inj' (by simpa using heq)
          have HSS : Hid (memT W s = true) := by show _ = _; rw [memT_hasW2, ← HWW.out, ← hss]; exact stem_self HBK.out HXk.out
          clear hss
          go_wp2_with fail
          first
          | (go_region_held3 (fun w' => w'.cell? ⟨w1.heap.size, 0, none⟩ = some (.slice b0 xs.length c0) ∧ w'.cell? ⟨wr.heap.size, 0, none⟩ = some (.string st) ∧ w'.cell? ⟨wr.heap.size, 1, none⟩ = some (.string fl)) (go_keep)
             (first
               | (have q := HF10; clear q; go_at_call 12; refine (mdHas_any _ _ W s ((HT3.out.below HC7.out).below HF10.out)).mono ?_; rintro e w11 ⟨rfl, hb11⟩; rw [HSS.out]; have HF11 : Hid (Below w7.heap.size w7 w11) := HF10.out.trans (hb11.mono HF10.out.size); clear hb11 y0 y1 y2; obtain ⟨y0, y1, y2⟩ := HY.out w11 HF11.out)
               | (have q := HF9; clear q; go_at_call 12; refine (mdHas_any _ _ (formsT xs st fl) s HT9.out).mono ?_; rintro e w10 ⟨rfl, hb10⟩; rw [HM2.out]; have HF10 : Hid (Below w7.heap.size w7 w10) := HF9.out.trans (hb10.mono HF9.out.size); clear hb10 y0 y1 y2; obtain ⟨y0, y1, y2⟩ := HY.out w10 HF10.out)
               | (have q := HF8; clear q; go_at_call 8; refine (implForms_any _ _ xs st fl (HA.out.below (HB7.out.trans (HF8.out.mono HB7.out.size))) HXF.out.1 HXF.out.2).mono ?_; rintro e w9 ⟨v9, rfl, ht9, hb9⟩; have HF9 : Hid (Below w7.heap.size w7 w9) := HF8.out.trans (hb9.mono HF8.out.size); clear hb9 y0 y1 y2; obtain ⟨y0, y1, y2⟩ := HY.out w9 HF9.out; have HT9 : Hid (TextsAt w9 v9 (formsT xs st fl)) := ht9.at; obtain ⟨a9, c9, rfl, -⟩ := ht9.at.form; clear ht9)
               | (go_at_call 12; refine (mdHas_any _ _ W st ((HT3.out.below HC7.out).below HD7.out)).mono ?_; rintro e w8 ⟨rfl, hb8⟩; rw [HM1.out]; have HF8 : Hid (Below w7.heap.size w7 w8) := HD7.out.trans (hb8.mono HD7.out.size); clear hb8 y0 y1 y2; obtain ⟨y0, y1, y2⟩ := HY.out w8 HF8.out)))
          | fail
          go_wp2
          go_roundw
          case rel => exact ⟨k + 1, by omega, by go_num, HB6r.out.trans ((HR7.out.trans (HF11.out.mono HR7.out.size)).mono HB6r.out.size)⟩
          case measure => simp [intOf]; omega
        | false =>
          cases mk with
          | true =>
            go_wp2_with fail
            refine wp_region_held_drew (S := (fun w' => w'.cell? ⟨w1.heap.size, 0, none⟩ = some (.slice b0 xs.length c0) ∧ w'.cell? ⟨wr.heap.size, 0, none⟩ = some (.string st) ∧ w'.cell? ⟨wr.heap.size, 1, none⟩ = some (.string fl))) (by kernel_rfl) ?_ (fun hHeld => ?_)
            · (first | go_keep | ((try dsimp only); go_keep))
            refine wpAnyH_takeD (i := 0) (d := 47) (v := .slice a3 W.length c3) rfl (by kernel_rfl) (by kernel_rfl) (by kernel_rfl) (fun _ _ _ h => h) (Or.inl ⟨by rfl, by intro w hSw; (try dsimp only at hSw); go_simp⟩) (by assumption) rfl ?_
            simp only [Act.put, List.setIfInBounds_toArray, List.set_cons_zero, List.set_cons_succ]
            refine wpAnyH_takeD (i := 1) (d := 48) (v := .pointer (some ⟨wr.heap.size, 0, none⟩)) rfl (by kernel_rfl) (by kernel_rfl) (by kernel_rfl) (fun _ _ _ h => h) (Or.inl ⟨by rfl, by intro w hSw; (try dsimp only at hSw); go_simp⟩) (by assumption) rfl ?_
            simp only [Act.put, List.setIfInBounds_toArray, List.set_cons_zero, List.set_cons_succ]
            refine wpAnyH_takeD (i := 2) (d := 49) (v := .string st) rfl (by kernel_rfl) (by kernel_rfl) (by kernel_rfl) (fun _ _ _ h => h) (Or.inl ⟨by rfl, by intro w hSw; (try dsimp only at hSw); go_simp⟩) (by assumption) rfl ?_
            simp only [Act.put, List.setIfInBounds_toArray, List.set_cons_zero, List.set_cons_succ]
            refine wpAnyH_takeD (i := 4) (d := 51) (v := .pointer (some ⟨w1.heap.size, 0, none⟩)) rfl (by kernel_rfl) (by kernel_rfl) (by kernel_rfl) (fun _ _ _ h => h) (Or.inl ⟨by rfl, by intro w hSw; (try dsimp only at hSw); go_simp⟩) (by assumption) rfl ?_
            simp only [Act.put, List.setIfInBounds_toArray, List.set_cons_zero, List.set_cons_succ]
            refine wpAnyH_takeD (i := 5) (d := 52) (v := .slice b0 xs.length c0) rfl (by kernel_rfl) (by kernel_rfl) (by kernel_rfl) (fun _ _ _ h => h) (Or.inl ⟨by rfl, by intro w hSw; (try dsimp only at hSw); go_simp⟩) (by assumption) rfl ?_
            simp only [Act.put, List.setIfInBounds_toArray, List.set_cons_zero, List.set_cons_succ]
            refine wpAnyH_takeD (i := 6) (d := 53) (v := .agg #[.string st, .string fl]) rfl (by kernel_rfl) (by kernel_rfl) (by kernel_rfl) (fun _ _ _ h => h) (Or.inl ⟨by rfl, by intro w hSw; (try dsimp only at hSw); go_simp⟩) (by assumption) rfl ?_
            simp only [Act.put, List.setIfInBounds_toArray, List.set_cons_zero, List.set_cons_succ]
            refine wpAnyH_takeD (i := 8) (d := 55) (v := .string s) rfl (by kernel_rfl) (by kernel_rfl) (by kernel_rfl) (fun _ _ _ h => h) (Or.inl ⟨by rfl, by intro w hSw; (try dsimp only at hSw); go_simp⟩) (by assumption) rfl ?_
            simp only [Act.put, List.setIfInBounds_toArray, List.set_cons_zero, List.set_cons_succ]
            refine wpAnyH_ready (rs := [3]) (by kernel_rfl) (by simp) ?_
            refine AllReadyH.cons rfl (fun K hK => ?_) AllReadyH.nil
            go_simp
            go_at_call 12; refine (mdHas_any _ _ W st ((HT3.out.below HC7.out).below HD7.out)).mono ?_; rintro e w8 ⟨rfl, hb8⟩; rw [HM1.out]; have HF8 : Hid (Below w7.heap.size w7 w8) := HD7.out.trans (hb8.mono HD7.out.size); clear hb8 y0 y1 y2; obtain ⟨y0, y1, y2⟩ := HY.out w8 HF8.out
            refine hK.out _ _ ?_ (fun hHeld => ?_)
            · (first | go_keep | ((try dsimp only); go_keep))
            clear hK K
            try simp only [Act.put, List.setIfInBounds_toArray, List.set_cons_zero, List.set_cons_succ]
            refine wpAnyH_ready (rs := [7]) (by kernel_rfl) (by simp) ?_
            refine AllReadyH.cons rfl (fun K hK => ?_) AllReadyH.nil
            go_simp
            have q := HF8; clear q; go_at_call 8; refine (implForms_any _ _ xs st fl (HA.out.below (HB7.out.trans (HF8.out.mono HB7.out.size))) HXF.out.1 HXF.out.2).mono ?_; rintro e w9 ⟨v9, rfl, ht9, hb9⟩; have HF9 : Hid (Below w7.heap.size w7 w9) := HF8.out.trans (hb9.mono HF8.out.size); clear hb9 y0 y1 y2; obtain ⟨y0, y1, y2⟩ := HY.out w9 HF9.out; have HT9 : Hid (TextsAt w9 v9 (formsT xs st fl)) := ht9.at; obtain ⟨a9, c9, rfl, -⟩ := ht9.at.form; clear ht9
            refine hK.out _ _ ?_ (fun hHeld => ?_)
            · (first | go_keep | ((try dsimp only); go_keep))
            clear hK K
            try simp only [Act.put, List.setIfInBounds_toArray, List.set_cons_zero, List.set_cons_succ]
            refine wpAnyH_ready (rs := [9]) (by kernel_rfl) (by simp) ?_
            refine AllReadyH.cons rfl (fun K hK => ?_) AllReadyH.nil
            go_simp
            have q := HF9; clear q; go_at_call 12; refine (mdHas_any _ _ (formsT xs st fl) s HT9.out).mono ?_; rintro e w10 ⟨rfl, hb10⟩; rw [HM2.out]; have HF10 : Hid (Below w7.heap.size w7 w10) := HF9.out.trans (hb10.mono HF9.out.size); clear hb10 y0 y1 y2; obtain ⟨y0, y1, y2⟩ := HY.out w10 HF10.out
            refine hK.out _ _ ?_ (fun hHeld => ?_)
            · (first | go_keep | ((try dsimp only); go_keep))
            clear hK K
            try simp only [Act.put, List.setIfInBounds_toArray, List.set_cons_zero, List.set_cons_succ]
            refine wpAnyH_takeD (i := 10) (d := 57) (v := .bool false) rfl (by kernel_rfl) (by kernel_rfl) (by kernel_rfl) (fun _ _ _ h => h) (Or.inl ⟨by rfl, by intro w hSw; (try dsimp only at hSw); go_simp⟩) (by assumption) rfl ?_
            simp only [Act.put, List.setIfInBounds_toArray, List.set_cons_zero, List.set_cons_succ]
            refine wpAnyH_takeD (i := 11) (d := 58) (v := .bool false) rfl (by kernel_rfl) (by kernel_rfl) (by kernel_rfl) (fun _ _ _ h => h) (Or.inl ⟨by rfl, by intro w hSw; (try dsimp only at hSw); go_simp⟩) (by assumption) rfl ?_
            simp only [Act.put, List.setIfInBounds_toArray, List.set_cons_zero, List.set_cons_succ]
            refine wpAnyH_takeD (i := 12) (d := 59) (v := .pointer (some ⟨wr.heap.size, 0, none⟩)) rfl (by kernel_rfl) (by kernel_rfl) (by kernel_rfl) (fun _ _ _ h => h) (Or.inl ⟨by rfl, by intro w hSw; (try dsimp only at hSw); go_simp⟩) (by assumption) rfl ?_
            simp only [Act.put, List.setIfInBounds_toArray, List.set_cons_zero, List.set_cons_succ]
            refine wpAnyH_takeD (i := 13) (d := 60) (v := .string st) rfl (by kernel_rfl) (by kernel_rfl) (by kernel_rfl) (fun _ _ _ h => h) (Or.inl ⟨by rfl, by intro w hSw; (try dsimp only at hSw); go_simp⟩) (by assumption) rfl ?_
            simp only [Act.put, List.setIfInBounds_toArray, List.set_cons_zero, List.set_cons_succ]
            refine wpAnyH_takeD (i := 14) (d := 61) (v := .string s) rfl (by kernel_rfl) (by kernel_rfl) (by kernel_rfl) (fun _ _ _ h => h) (Or.inl ⟨by rfl, by intro w hSw; (try dsimp only at hSw); go_simp⟩) (by assumption) rfl ?_
            simp only [Act.put, List.setIfInBounds_toArray, List.set_cons_zero, List.set_cons_succ]
            refine wpAnyH_takeD (i := 15) (d := 62) (v := .bool false) rfl (by kernel_rfl) (by kernel_rfl) (by kernel_rfl) (fun _ _ _ h => h) (Or.inl ⟨by rfl, by intro w hSw; (try dsimp only at hSw); go_simp⟩) (by assumption) rfl ?_
            simp only [Act.put, List.setIfInBounds_toArray, List.set_cons_zero, List.set_cons_succ]
            refine wpAnyH_takeD (i := 16) (d := 63) (v := .bool false) rfl (by kernel_rfl) (by kernel_rfl) (by kernel_rfl) (fun _ _ _ h => h) (Or.inl ⟨by rfl, by intro w hSw; (try dsimp only at hSw); go_simp⟩) (by assumption) rfl ?_
            simp only [Act.put, List.setIfInBounds_toArray, List.set_cons_zero, List.set_cons_succ]
            refine wpAnyH_takeD (i := 17) (d := 64) (v := undef) rfl (by kernel_rfl) (by kernel_rfl) (by kernel_rfl) (fun _ _ _ h => h) (Or.inr ⟨by rfl, rfl⟩) (by assumption) rfl ?_
            simp only [Act.put, List.setIfInBounds_toArray, List.set_cons_zero, List.set_cons_succ]
            refine wpAnyH_takeD (i := 18) (d := 65) (v := undef) rfl (by kernel_rfl) (by kernel_rfl) (by kernel_rfl) (fun _ _ _ h => h) (Or.inr ⟨by rfl, rfl⟩) (by assumption) rfl ?_
            simp only [Act.put, List.setIfInBounds_toArray, List.set_cons_zero, List.set_cons_succ]
            refine wpAnyH_takeD (i := 19) (d := 66) (v := undef) rfl (by kernel_rfl) (by kernel_rfl) (by kernel_rfl) (fun _ _ _ h => h) (Or.inr ⟨by rfl, rfl⟩) (by assumption) rfl ?_
            simp only [Act.put, List.setIfInBounds_toArray, List.set_cons_zero, List.set_cons_succ]
            refine wpAnyH_takeD (i := 20) (d := 67) (v := undef) rfl (by kernel_rfl) (by kernel_rfl) (by kernel_rfl) (fun _ _ _ h => h) (Or.inr ⟨by rfl, rfl⟩) (by assumption) rfl ?_
            simp only [Act.put, List.setIfInBounds_toArray, List.set_cons_zero, List.set_cons_succ]
            refine wpAnyH_takeD (i := 21) (d := 68) (v := .bool false) rfl (by kernel_rfl) (by kernel_rfl) (by kernel_rfl) (fun _ _ _ h => h) (Or.inl ⟨by rfl, by intro w hSw; (try dsimp only at hSw); go_simp⟩) (by assumption) rfl ?_
            simp only [Act.put, List.setIfInBounds_toArray, List.set_cons_zero, List.set_cons_succ]
            refine wpAnyH_takeD (i := 22) (d := 69) (v := .bool false) rfl (by kernel_rfl) (by kernel_rfl) (by kernel_rfl) (fun _ _ _ h => h) (Or.inl ⟨by rfl, by intro w hSw; (try dsimp only at hSw); go_simp⟩) (by assumption) rfl ?_
            simp only [Act.put, List.setIfInBounds_toArray, List.set_cons_zero, List.set_cons_succ]
            refine wpAnyH_done (by kernel_rfl) ?_ _
            go_wp2
            go_roundw
            case rel => exact ⟨k + 1, by omega, by go_num, HB6r.out.trans ((HR7.out.trans (HF10.out.mono HR7.out.size)).mono HB6r.out.size)⟩
            case measure => simp [intOf]; omega
          | false =>
            go_wp2_with fail
            refine wp_region_held_drew (S := (fun w' => w'.cell? ⟨w1.heap.size, 0, none⟩ = some (.slice b0 xs.length c0) ∧ w'.cell? ⟨wr.heap.size, 0, none⟩ = some (.string st) ∧ w'.cell? ⟨wr.heap.size, 1, none⟩ = some (.string fl))) (by kernel_rfl) ?_ (fun hHeld => ?_)
            · (first | go_keep | ((try dsimp only); go_keep))
            refine wpAnyH_takeD (i := 0) (d := 47) (v := .slice a3 W.length c3) rfl (by kernel_rfl) (by kernel_rfl) (by kernel_rfl) (fun _ _ _ h => h) (Or.inl ⟨by rfl, by intro w hSw; (try dsimp only at hSw); go_simp⟩) (by assumption) rfl ?_
            simp only [Act.put, List.setIfInBounds_toArray, List.set_cons_zero, List.set_cons_succ]
            refine wpAnyH_takeD (i := 1) (d := 48) (v := .pointer (some ⟨wr.heap.size, 0, none⟩)) rfl (by kernel_rfl) (by kernel_rfl) (by kernel_rfl) (fun _ _ _ h => h) (Or.inl ⟨by rfl, by intro w hSw; (try dsimp only at hSw); go_simp⟩) (by assumption) rfl ?_
            simp only [Act.put, List.setIfInBounds_toArray, List.set_cons_zero, List.set_cons_succ]
            refine wpAnyH_takeD (i := 2) (d := 49) (v := .string st) rfl (by kernel_rfl) (by kernel_rfl) (by kernel_rfl) (fun _ _ _ h => h) (Or.inl ⟨by rfl, by intro w hSw; (try dsimp only at hSw); go_simp⟩) (by assumption) rfl ?_
            simp only [Act.put, List.setIfInBounds_toArray, List.set_cons_zero, List.set_cons_succ]
            refine wpAnyH_takeD (i := 4) (d := 51) (v := .pointer (some ⟨w1.heap.size, 0, none⟩)) rfl (by kernel_rfl) (by kernel_rfl) (by kernel_rfl) (fun _ _ _ h => h) (Or.inl ⟨by rfl, by intro w hSw; (try dsimp only at hSw); go_simp⟩) (by assumption) rfl ?_
            simp only [Act.put, List.setIfInBounds_toArray, List.set_cons_zero, List.set_cons_succ]
            refine wpAnyH_takeD (i := 5) (d := 52) (v := .slice b0 xs.length c0) rfl (by kernel_rfl) (by kernel_rfl) (by kernel_rfl) (fun _ _ _ h => h) (Or.inl ⟨by rfl, by intro w hSw; (try dsimp only at hSw); go_simp⟩) (by assumption) rfl ?_
            simp only [Act.put, List.setIfInBounds_toArray, List.set_cons_zero, List.set_cons_succ]
            refine wpAnyH_takeD (i := 6) (d := 53) (v := .agg #[.string st, .string fl]) rfl (by kernel_rfl) (by kernel_rfl) (by kernel_rfl) (fun _ _ _ h => h) (Or.inl ⟨by rfl, by intro w hSw; (try dsimp only at hSw); go_simp⟩) (by assumption) rfl ?_
            simp only [Act.put, List.setIfInBounds_toArray, List.set_cons_zero, List.set_cons_succ]
            refine wpAnyH_takeD (i := 8) (d := 55) (v := .string s) rfl (by kernel_rfl) (by kernel_rfl) (by kernel_rfl) (fun _ _ _ h => h) (Or.inl ⟨by rfl, by intro w hSw; (try dsimp only at hSw); go_simp⟩) (by assumption) rfl ?_
            simp only [Act.put, List.setIfInBounds_toArray, List.set_cons_zero, List.set_cons_succ]
            refine wpAnyH_ready (rs := [3]) (by kernel_rfl) (by simp) ?_
            refine AllReadyH.cons rfl (fun K hK => ?_) AllReadyH.nil
            go_simp
            go_at_call 12; refine (mdHas_any _ _ W st ((HT3.out.below HC7.out).below HD7.out)).mono ?_; rintro e w8 ⟨rfl, hb8⟩; rw [HM1.out]; have HF8 : Hid (Below w7.heap.size w7 w8) := HD7.out.trans (hb8.mono HD7.out.size); clear hb8 y0 y1 y2; obtain ⟨y0, y1, y2⟩ := HY.out w8 HF8.out
            refine hK.out _ _ ?_ (fun hHeld => ?_)
            · (first | go_keep | ((try dsimp only); go_keep))
            clear hK K
            try simp only [Act.put, List.setIfInBounds_toArray, List.set_cons_zero, List.set_cons_succ]
            refine wpAnyH_ready (rs := [7]) (by kernel_rfl) (by simp) ?_
            refine AllReadyH.cons rfl (fun K hK => ?_) AllReadyH.nil
            go_simp
            have q := HF8; clear q; go_at_call 8; refine (implForms_any _ _ xs st fl (HA.out.below (HB7.out.trans (HF8.out.mono HB7.out.size))) HXF.out.1 HXF.out.2).mono ?_; rintro e w9 ⟨v9, rfl, ht9, hb9⟩; have HF9 : Hid (Below w7.heap.size w7 w9) := HF8.out.trans (hb9.mono HF8.out.size); clear hb9 y0 y1 y2; obtain ⟨y0, y1, y2⟩ := HY.out w9 HF9.out; have HT9 : Hid (TextsAt w9 v9 (formsT xs st fl)) := ht9.at; obtain ⟨a9, c9, rfl, -⟩ := ht9.at.form; clear ht9
            refine hK.out _ _ ?_ (fun hHeld => ?_)
            · (first | go_keep | ((try dsimp only); go_keep))
            clear hK K
            try simp only [Act.put, List.setIfInBounds_toArray, List.set_cons_zero, List.set_cons_succ]
            refine wpAnyH_ready (rs := [9]) (by kernel_rfl) (by simp) ?_
            refine AllReadyH.cons rfl (fun K hK => ?_) AllReadyH.nil
            go_simp
            have q := HF9; clear q; go_at_call 12; refine (mdHas_any _ _ (formsT xs st fl) s HT9.out).mono ?_; rintro e w10 ⟨rfl, hb10⟩; rw [HM2.out]; have HF10 : Hid (Below w7.heap.size w7 w10) := HF9.out.trans (hb10.mono HF9.out.size); clear hb10 y0 y1 y2; obtain ⟨y0, y1, y2⟩ := HY.out w10 HF10.out
            refine hK.out _ _ ?_ (fun hHeld => ?_)
            · (first | go_keep | ((try dsimp only); go_keep))
            clear hK K
            try simp only [Act.put, List.setIfInBounds_toArray, List.set_cons_zero, List.set_cons_succ]
            refine wpAnyH_takeD (i := 10) (d := 57) (v := .bool false) rfl (by kernel_rfl) (by kernel_rfl) (by kernel_rfl) (fun _ _ _ h => h) (Or.inl ⟨by rfl, by intro w hSw; (try dsimp only at hSw); go_simp⟩) (by assumption) rfl ?_
            simp only [Act.put, List.setIfInBounds_toArray, List.set_cons_zero, List.set_cons_succ]
            refine wpAnyH_takeD (i := 11) (d := 58) (v := .bool false) rfl (by kernel_rfl) (by kernel_rfl) (by kernel_rfl) (fun _ _ _ h => h) (Or.inl ⟨by rfl, by intro w hSw; (try dsimp only at hSw); go_simp⟩) (by assumption) rfl ?_
            simp only [Act.put, List.setIfInBounds_toArray, List.set_cons_zero, List.set_cons_succ]
            refine wpAnyH_takeD (i := 12) (d := 59) (v := .pointer (some ⟨wr.heap.size, 0, none⟩)) rfl (by kernel_rfl) (by kernel_rfl) (by kernel_rfl) (fun _ _ _ h => h) (Or.inl ⟨by rfl, by intro w hSw; (try dsimp only at hSw); go_simp⟩) (by assumption) rfl ?_
            simp only [Act.put, List.setIfInBounds_toArray, List.set_cons_zero, List.set_cons_succ]
            refine wpAnyH_takeD (i := 13) (d := 60) (v := .string st) rfl (by kernel_rfl) (by kernel_rfl) (by kernel_rfl) (fun _ _ _ h => h) (Or.inl ⟨by rfl, by intro w hSw; (try dsimp only at hSw); go_simp⟩) (by assumption) rfl ?_
            simp only [Act.put, List.setIfInBounds_toArray, List.set_cons_zero, List.set_cons_succ]
            refine wpAnyH_takeD (i := 14) (d := 61) (v := .string s) rfl (by kernel_rfl) (by kernel_rfl) (by kernel_rfl) (fun _ _ _ h => h) (Or.inl ⟨by rfl, by intro w hSw; (try dsimp only at hSw); go_simp⟩) (by assumption) rfl ?_
            simp only [Act.put, List.setIfInBounds_toArray, List.set_cons_zero, List.set_cons_succ]
            refine wpAnyH_takeD (i := 15) (d := 62) (v := .bool false) rfl (by kernel_rfl) (by kernel_rfl) (by kernel_rfl) (fun _ _ _ h => h) (Or.inl ⟨by rfl, by intro w hSw; (try dsimp only at hSw); go_simp⟩) (by assumption) rfl ?_
            simp only [Act.put, List.setIfInBounds_toArray, List.set_cons_zero, List.set_cons_succ]
            refine wpAnyH_takeD (i := 16) (d := 63) (v := .bool false) rfl (by kernel_rfl) (by kernel_rfl) (by kernel_rfl) (fun _ _ _ h => h) (Or.inl ⟨by rfl, by intro w hSw; (try dsimp only at hSw); go_simp⟩) (by assumption) rfl ?_
            simp only [Act.put, List.setIfInBounds_toArray, List.set_cons_zero, List.set_cons_succ]
            refine wpAnyH_takeD (i := 17) (d := 64) (v := undef) rfl (by kernel_rfl) (by kernel_rfl) (by kernel_rfl) (fun _ _ _ h => h) (Or.inr ⟨by rfl, rfl⟩) (by assumption) rfl ?_
            simp only [Act.put, List.setIfInBounds_toArray, List.set_cons_zero, List.set_cons_succ]
            refine wpAnyH_takeD (i := 18) (d := 65) (v := undef) rfl (by kernel_rfl) (by kernel_rfl) (by kernel_rfl) (fun _ _ _ h => h) (Or.inr ⟨by rfl, rfl⟩) (by assumption) rfl ?_
            simp only [Act.put, List.setIfInBounds_toArray, List.set_cons_zero, List.set_cons_succ]
            refine wpAnyH_takeD (i := 19) (d := 66) (v := undef) rfl (by kernel_rfl) (by kernel_rfl) (by kernel_rfl) (fun _ _ _ h => h) (Or.inr ⟨by rfl, rfl⟩) (by assumption) rfl ?_
            simp only [Act.put, List.setIfInBounds_toArray, List.set_cons_zero, List.set_cons_succ]
            refine wpAnyH_takeD (i := 20) (d := 67) (v := undef) rfl (by kernel_rfl) (by kernel_rfl) (by kernel_rfl) (fun _ _ _ h => h) (Or.inr ⟨by rfl, rfl⟩) (by assumption) rfl ?_
            simp only [Act.put, List.setIfInBounds_toArray, List.set_cons_zero, List.set_cons_succ]
            refine wpAnyH_takeD (i := 21) (d := 68) (v := .bool false) rfl (by kernel_rfl) (by kernel_rfl) (by kernel_rfl) (fun _ _ _ h => h) (Or.inl ⟨by rfl, by intro w hSw; (try dsimp only at hSw); go_simp⟩) (by assumption) rfl ?_
            simp only [Act.put, List.setIfInBounds_toArray, List.set_cons_zero, List.set_cons_succ]
            refine wpAnyH_takeD (i := 22) (d := 69) (v := .bool false) rfl (by kernel_rfl) (by kernel_rfl) (by kernel_rfl) (fun _ _ _ h => h) (Or.inl ⟨by rfl, by intro w hSw; (try dsimp only at hSw); go_simp⟩) (by assumption) rfl ?_
            simp only [Act.put, List.setIfInBounds_toArray, List.set_cons_zero, List.set_cons_succ]
            refine wpAnyH_done (by kernel_rfl) ?_ _
            go_wp2
            go_roundw
            case rel => exact ⟨k + 1, by omega, by go_num, HB6r.out.trans ((HR7.out.trans (HF10.out.mono HR7.out.size)).mono HB6r.out.size)⟩
            case measure => simp [intOf]; omega
      · have hke : k = es.length := by omega
        subst hke
        go_wp2
        go_ret
        exact ⟨rfl, HB2.out.trans (HB.out.mono HB2.out.size)⟩
end Go.Proofs.Ythikcililececaa
