/-
  spec.l2In, spec.l2Words, spec.BookKnows, spec.BookStems.
-/
import Derived.Test.YthikcililececaaW151
import Derived.Test.YthikcililececaaW78
import Derived.Test.YthikcililececaaW129
import Derived.Deep.RegionHeld3
namespace Go.Proofs.Ythikcililececaa
open Go.RowKit
set_option linter.unusedVariables false
theorem hasW_take {l : List ByteArray} {k : Nat} {x : ByteArray} (hx : l[k]? = some x) (s : ByteArray) : hasW (l.take (k + 1)) s = (hasW (l.take k) s || decide (x = s)) := by
  unfold hasW
  rw [List.take_add_one, hx]
  simp
theorem hasW_mem {l : List ByteArray} {k : Nat} {x : ByteArray} (hx : l[k]? = some x) : hasW l x = true := (hasW_iff l x).2 (List.mem_of_getElem? hx)
theorem toList_inj {a b : ByteArray} (h : a.toList = b.toList) : a = b := by
  rw [ByteArray.toList_eq, ByteArray.toList_eq] at h
  cases a; cases b
  simp only [ByteArray.mk.injEq]
  exact Array.toList_inj.1 h
theorem row_none (w : World) : TextRow (w.alloc (.cells #[] 9)) (.slice (some ⟨w.heap.size, 0, none⟩) 0 0) [] :=
  ⟨_, 0, rfl, Nat.le_refl _, fun i s hs => by simp at hs, _, heap_alloc_last _ _⟩
set_option maxHeartbeats 1000000 in
theorem l2In_any (w : World) (v : Value) (ss : List ByteArray) (s : ByteArray) (h : TextsAt w v ss) :
    Calls Try.prog 44 #[v, .string s] w fun e w' => e = .returned (.bool (hasW ss s)) ∧ w' = w := by
  obtain ⟨a, cap, rfl, hc, hm⟩ := h.form
  have HS : Hid (TextsAt w (.slice a ss.length cap) ss) := h
  clear h
  unfold maxLen at hm
  go_enter Try.func44, Try.ntmps44
  go_wp2
  go_loop [5] (fun i => ∃ k : Nat, k ≤ ss.length ∧ i = .int .i64 k ∧ hasW (ss.take k) s = false) (fun i => ss.length - (intOf i).toNat)
  case atStart => exact ⟨0, Nat.zero_le _, rfl, rfl⟩
  case round =>
    obtain ⟨k, hk, rfl, hr⟩ := hrel
    have HR : Hid (hasW (ss.take k) s = false) := hr
    clear hr
    by_cases hlt : k < ss.length
    · obtain ⟨b, off, cap', x, hv, hbl, hx, hxf, e0⟩ := HS.out.at hlt
      cases hv
      have HX : Hid (ss[k]? = some x) := hx
      clear hx hxf
      by_cases hq : x.toList = s.toList
      · have HQ : Hid (x = s) := toList_inj hq
        go_wp2
        go_ret
        exact ⟨ret_bool (by rw [← HQ.out, hasW_mem HX.out]), rfl⟩
      · have HQ : Hid (¬ x = s) := fun e => hq (by rw [e])
        have hq' : (x.toList == s.toList) = false := by simpa using hq
        go_wp2
        go_round
        case rel => exact ⟨k + 1, by omega, by go_num, by rw [hasW_take HX.out, HR.out]; simpa using HQ.out⟩
        case measure => simp [intOf]; omega
    · have hke : k = ss.length := by omega
      subst hke
      go_wp2
      go_ret
      exact ⟨ret_bool (by have := HR.out; rw [List.take_length] at this; rw [this]), rfl⟩
set_option maxRecDepth 100000 in
set_option maxHeartbeats 2000000 in
theorem l2Words_any (w : World) (va ve : Value) (xs : List Aff) (es : List (ByteArray × ByteArray)) (ha : AffsAt w va xs) (he : EntsAt w ve es) (hbk : bookT xs es = true) :
    Calls Try.prog 41 #[.agg #[va, ve]] w fun e w' => ∃ v, e = .returned v ∧ TextRow w' v (wordsTo xs es es.length) ∧ Below w.heap.size w w' := by
  obtain ⟨a, cap, rfl, hc, hm⟩ := ha.form
  obtain ⟨a', cap', rfl, hc', hm'⟩ := he.form
  have HA : Hid (AffsAt w (.slice a xs.length cap) xs) := ha
  have HE : Hid (EntsAt w (.slice a' es.length cap') es) := he
  have HBK : Hid (bookT xs es = true) := hbk
  have hl24 := bookT_len hbk
  have HOK : Hid ((∀ a ∈ xs, affOk a = true) ∧ xs.length ≤ 8) := affsT_all (bookT_affs hbk)
  have hx8 := HOK.out.2
  clear ha he hbk
  obtain ⟨w0, hw0⟩ : ∃ w0, (w.alloc (.cells #[.slice a xs.length cap, .slice a' es.length cap'] 40)).alloc (.cells #[] 9) = w0 := ⟨_, rfl⟩
  have HB0 : Hid (Below w.heap.size w w0) := by rw [← hw0]; exact ((Below.refl _ _).alloc (Nat.le_refl _) _).alloc (by simp <;> omega) _
  have HT0 : Hid (TextRow w0 (.slice (some ⟨w.heap.size + 1, 0, none⟩) 0 0) []) := by
    rw [← hw0]
    have := row_none (w.alloc (.cells #[.slice a xs.length cap, .slice a' es.length cap'] 40))
    rw [World.size_alloc] at this
    exact this
  have c0 : w0.cell? ⟨w.heap.size, 0, none⟩ = some (.slice a xs.length cap) := by rw [← hw0]; simp [go_sem]
  have c1 : w0.cell? ⟨w.heap.size, 1, none⟩ = some (.slice a' es.length cap') := by rw [← hw0]; simp [go_sem]
  have C0 : Hid (w0.cell? ⟨w.heap.size, 0, none⟩ = some (.slice a xs.length cap)) := c0
  have C1 : Hid (w0.cell? ⟨w.heap.size, 1, none⟩ = some (.slice a' es.length cap')) := c1
  have hz0 : w.heap.size < w0.heap.size := by rw [← hw0]; simp; omega
  clear c0 c1
  go_enter Try.func41, Try.ntmps41
  go_wp2
  clear hw0
  go_loopw [3, 4] (fun o i wr => ∃ (k : Nat) (v0 : Value), k ≤ es.length ∧ o = v0 ∧ i = .int .i64 k ∧ TextRow wr v0 (wordsTo xs es k) ∧ Below w0.heap.size w0 wr) (fun _ i _ => es.length - (intOf i).toNat)
  case atStart => exact ⟨0, _, Nat.zero_le _, rfl, rfl, HT0.out, Below.refl _ _⟩
  case round =>
    obtain ⟨k, v0, hk, hov, rfl, ht, hb⟩ := hrel
    obtain ⟨g0, cp0, hv0, -⟩ := id ht
    subst hv0
    subst hov
    have HT : Hid (TextRow wr (.slice (some ⟨g0, 0, none⟩) (wordsTo xs es k).length cp0) (wordsTo xs es k)) := ht
    have HB : Hid (Below w0.heap.size w0 wr) := hb
    have hzr := hb.size
    clear ht
    have d1 := (HB.out.cell (p := ⟨w.heap.size, 1, none⟩) hz0).trans C1.out
    clear hb
    by_cases hlt : k < es.length
    · have HBW : Hid (Below w.heap.size w wr) := HB0.out.trans (HB.out.mono HB0.out.size)
      obtain ⟨b, off, cap2, x, hv, hbl, hx, hxf, e0, e1⟩ := (HE.out.below HBW.out).at hlt
      cases hv
      obtain ⟨st, fl⟩ := x
      have HX : Hid (es[k]? = some (st, fl)) := hx
      have HEN : Hid (entT st fl = true) := bookT_ent HBK.out hx
      have HWK : Hid (wok st = true) := by have := HEN.out; simp only [entT, Bool.and_eq_true] at this; exact this.1
      simp only at e0 e1 hxf
      have HXF : Hid (st.size ≤ maxLen ∧ fl.size ≤ maxLen) := hxf
      have HAr : Hid (AffsAt wr (.slice a xs.length cap) xs) := HA.out.below HBW.out
      have d0 := (HB.out.cell (p := ⟨w.heap.size, 0, none⟩) hz0).trans C0.out
      have i0 : (0 : Int) ≤ (k : Int) := by omega
      have i1 : (k : Int) < (es.length : Int) := by omega
      have hzw : w.heap.size < wr.heap.size := Nat.lt_of_lt_of_le hz0 hzr
      clear hx hxf
      go_wp2_with fail
      go_region_held3 (fun w' => w'.cell? ⟨w.heap.size, 0, none⟩ = some (.slice a xs.length cap) ∧ w'.cell? ⟨w.heap.size, 1, none⟩ = some (.slice (some ⟨b, off, none⟩) es.length cap') ∧ w'.cell? ⟨b, off + k * 2, none⟩ = some (.string st) ∧ w'.cell? ⟨b, off + k * 2 + 1, none⟩ = some (.string fl)) (go_keep)
        ((go_at_call 34; refine (l2Forms_any _ _ xs st fl (HAr.out.below (Below.refl _ _).drew) HOK.out.1 HWK.out hx8 HXF.out.2).mono ?_; rintro e w2 ⟨vl, rfl, htl, hb2⟩; have HB2 : Hid (Below wr.heap.size wr w2) := (Below.drew (Below.refl wr.heap.size wr)).trans hb2; have HTL : Hid (TextRow w2 vl (formsL xs st fl)) := htl; have k0 := (HB2.out.cell (p := ⟨w.heap.size, 0, none⟩) hzw).trans d0; have k1 := (HB2.out.cell (p := ⟨w.heap.size, 1, none⟩) hzw).trans d1; have k2 := (HB2.out.cell (p := ⟨b, off + k * 2, none⟩) hbl).trans e0; have k3 := (HB2.out.cell (p := ⟨b, off + k * 2 + 1, none⟩) hbl).trans e1; clear hb2 d0 d1 e0 e1; obtain ⟨gl, cl, rfl, hcl⟩ := htl; clear hcl))
      go_wp2
      have HFL : Hid (formsT xs st fl = formsL xs st fl) := formsT_L HBK.out HX.out
      obtain ⟨fs, hfs⟩ : ∃ fs, formsL xs st fl = fs := ⟨_, rfl⟩
      rw [hfs] at HTL HFL ⊢
      have hfl : fs.length ≤ 100 := by rw [← hfs]; exact formsL_len st fl hx8
      clear hfs
      have hwl := wordsTo_len xs es k
      have HT2 : Hid (TextRow w2 (.slice (some ⟨g0, 0, none⟩) (wordsTo xs es k).length cp0) (wordsTo xs es k)) := HT.out.below HB2.out
      go_loopw [3, 6] (fun o i wi => ∃ (j : Nat) (v1 : Value), j ≤ fs.length ∧ o = v1 ∧ i = .int .i64 j ∧ TextRow wi v1 ((fs.take j).foldl put (wordsTo xs es k)) ∧ Below w2.heap.size w2 wi) (fun _ i _ => fs.length - (intOf i).toNat)
      case atStart => exact ⟨0, _, Nat.zero_le _, rfl, rfl, HT2.out, Below.refl _ _⟩
      case round =>
        rename World => wi
        obtain ⟨j, v1, hj, hov, rfl, ht, hb⟩ := hrel
        obtain ⟨g1, cp1, hv1, -⟩ := id ht
        subst hv1
        subst hov
        have HTi : Hid (TextRow wi (.slice (some ⟨g1, 0, none⟩) ((fs.take j).foldl put (wordsTo xs es k)).length cp1) ((fs.take j).foldl put (wordsTo xs es k))) := ht
        have HBi : Hid (Below w2.heap.size w2 wi) := hb
        clear hb ht
        by_cases hlj : j < fs.length
        · obtain ⟨s, hs⟩ : ∃ s, fs[j]? = some s := ⟨_, List.getElem?_eq_getElem hlj⟩
          have HSS : Hid ((fs.take (j + 1)).foldl put (wordsTo xs es k) = put ((fs.take j).foldl put (wordsTo xs es k)) s) := by
            show List.foldl _ _ _ = _
            rw [List.take_add_one, hs, List.foldl_append]
            rfl
          have hpl := puts_len (fs.take j) (wordsTo xs es k)
          have htk : (fs.take j).length = j := by rw [List.length_take]; omega
          have d2 : wi.cell? ⟨gl, 0 + j, none⟩ = some (.string s) := by
            obtain ⟨g', cp', hv', -, hcc, -⟩ := HTL.out.below HBi.out
            simp only [Value.slice.injEq, Option.some.injEq, Addr.mk.injEq, and_true, true_and] at hv'
            obtain ⟨rfl, -⟩ := hv'
            rw [Nat.zero_add]
            exact hcc j s hs
          have d2' : wi.cell? ⟨gl, j, none⟩ = some (.string s) := by rw [Nat.zero_add] at d2; exact d2
          clear hs
          go_wp2_with fail
          refine (l1Put_any _ _ _ s HTi.out (by omega)).mono ?_
          rintro e w3 ⟨v3, rfl, ht3, hb3⟩
          have HB3 : Hid (Below w2.heap.size w2 w3) := HBi.out.trans (hb3.mono HBi.out.size)
          have HT3 : Hid (TextRow w3 v3 (put ((fs.take j).foldl put (wordsTo xs es k)) s)) := ht3
          obtain ⟨g3, cp3, rfl, -⟩ := ht3
          clear hb3 d2 d2'
          go_wp2
          go_roundw
          case rel => exact ⟨j + 1, _, by omega, rfl, by go_num, by rw [HSS.out]; exact HT3.out, HB3.out⟩
          case measure => simp [intOf]; omega
        · have hje : j = fs.length := by omega
          subst hje
          have HWN : Hid (wordsTo xs es (k + 1) = (fs.take fs.length).foldl put (wordsTo xs es k)) := by
            show wordsTo xs es (k + 1) = _
            rw [wordsTo, HX.out, List.take_length]
            dsimp only
            rw [HFL.out]
          go_wp2
          go_roundw
          case rel => exact ⟨k + 1, _, by omega, rfl, by go_num, by rw [HWN.out]; exact HTi.out, HB.out.trans ((HB2.out.trans (HBi.out.mono HB2.out.size)).mono hzr)⟩
          case measure => simp [intOf]; omega
    · have hke : k = es.length := by omega
      subst hke
      go_wp2
      go_ret
      exact ⟨_, rfl, HT.out, HB0.out.trans (HB.out.mono HB0.out.size)⟩
end Go.Proofs.Ythikcililececaa
