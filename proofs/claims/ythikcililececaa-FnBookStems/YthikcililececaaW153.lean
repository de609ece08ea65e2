/-
  impl.BookKnows, impl.BookStems.
-/
import Derived.Test.YthikcililececaaW152
import Derived.Test.YthikcililececaaW129
import Derived.Test.YthikcililececaaW140
namespace Go.Proofs.Ythikcililececaa
open Go.RowKit Go.Maps Go.WideMaps
set_option linter.unusedVariables false
theorem places_T (xs : List Aff) (es : List (ByteArray × ByteArray)) (s : ByteArray) : placesOf (pairsT xs es) s = (if bookT xs es then atTo xs es s es.length else []).map (fun (n : Nat) => (n : Int)) := by
  unfold pairsT
  split
  · exact placesOf_pairs xs es s es.length
  · rfl
theorem knowsT_places (xs : List Aff) (es : List (ByteArray × ByteArray)) (s : ByteArray) : knowsT xs es s = decide (0 < (placesOf (pairsT xs es) s).length) := by
  rw [places_T, List.length_map]
  unfold knowsT
  cases bookT xs es with
  | true => simp [knowsTo_at]
  | false => simp
theorem stemsT_at (xs : List Aff) (es : List (ByteArray × ByteArray)) (s : ByteArray) : stemsT xs es s = (if bookT xs es then atTo xs es s es.length else []).map (stemAt es) := by
  unfold stemsT
  split
  · exact stemsTo_at xs es s es.length (Nat.le_refl _)
  · rfl
theorem stemsT_small (xs : List Aff) (es : List (ByteArray × ByteArray)) (s : ByteArray) : (stemsT xs es s).length ≤ 24 := by
  rw [stemsT_at, List.length_map]
  split
  · next h => exact Nat.le_trans (atTo_len xs es s es.length) (bookT_len h)
  · simp
theorem info_str153 : (Try.prog.info? 9).map (fun i => (i.zero, i.size, i.bytes)) = some (some (.string ⟨#[]⟩), 1, 16) := by kernel_rfl
set_option maxRecDepth 100000 in
set_option maxHeartbeats 2000000 in
theorem implBookStems_any (w : World) (va ve : Value) (xs : List Aff) (es : List (ByteArray × ByteArray)) (s : ByteArray) (ha : AffsAt w va xs) (he : EntsAt w ve es) (hs : s.size ≤ maxLen) :
    Calls Try.prog 20 #[.agg #[va, ve], .string s] w fun e w' => ∃ v, e = .returned v ∧ TextsRow w.heap.size w'.heap.size w' v (stemsT xs es s) ∧ Below w.heap.size w w' := by
  obtain ⟨a, cap, rfl, hc, hm⟩ := ha.form
  obtain ⟨a', cap', rfl, hc', hm'⟩ := he.form
  have HA : Hid (AffsAt w (.slice a xs.length cap) xs) := ha
  have HE : Hid (EntsAt w (.slice a' es.length cap') es) := he
  clear ha he
  obtain ⟨ats, hats⟩ : ∃ ats, (if bookT xs es then atTo xs es s es.length else []) = ats := ⟨_, rfl⟩
  have HST : Hid (stemsT xs es s = ats.map (stemAt es)) := by rw [← hats]; exact stemsT_at xs es s
  have HPL : Hid (placesOf (pairsT xs es) s = ats.map (fun (n : Nat) => (n : Int))) := by rw [← hats]; exact places_T xs es s
  have HLT : Hid (∀ n ∈ ats, n < es.length) := by
    intro n hn
    rw [← hats] at hn
    split at hn
    · exact atTo_lt xs es s es.length (Nat.le_refl _) n hn
    · cases hn
  have hal : ats.length ≤ 24 := by
    have := stemsT_small xs es s
    rw [HST.out, List.length_map] at this
    exact this
  clear hats
  have HSZ : Hid (∀ (i : Nat) (x : ByteArray), (ats.map (stemAt es))[i]? = some x → x.size ≤ maxLen) := fun i x hx => by
    obtain ⟨n, hn, rfl⟩ := List.mem_map.1 (List.mem_of_getElem? hx)
    have hlt := HLT.out n hn
    have hx2 := List.getElem?_eq_getElem hlt
    simp only [stemAt, hx2]
    exact (HE.out.fit n _ hx2).1
  have hkey := keyOf_string_mk Try.underlying9 hs
  obtain ⟨i3, hi3, hz3, hs3, hb3⟩ := info_parts info_str153
  have HB0 : Hid (Below w.heap.size w (w.alloc (.cells #[.slice a xs.length cap, .slice a' es.length cap'] 40))) := (Below.refl _ _).alloc (Nat.le_refl _) _
  go_enter Try.func20, Try.ntmps20
  go_wp2_with fail
  refine (wordStems_any _ _ _ xs es (HA.out.below HB0.out) (HE.out.below HB0.out)).mono ?_
  rintro e w1 ⟨n, D, rfl, hg, hn, ht, hb1, hz⟩
  have HB1 : Hid (Below w.heap.size w w1) := HB0.out.trans (hb1.mono HB0.out.size)
  have HT : Hid (Told Try.prog 9 D (pairsT xs es)) := ht
  have HG : Hid (World.ownsGroups (H := Unit) w1 Try.prog 9 ((w.alloc (.cells #[.slice a xs.length cap, .slice a' es.length cap'] 40)).heap.size + 2) 3 .i64 ((w.alloc (.cells #[.slice a xs.length cap, .slice a' es.length cap'] 40)).heap.size + 1) n D) := hg
  have c1 : w1.cell? ⟨w.heap.size, 1, none⟩ = some (.slice a' es.length cap') := (hb1.cell (p := ⟨w.heap.size, 1, none⟩) (by simp)).trans (by simp [go_sem])
  have C1 : Hid (w1.cell? ⟨w.heap.size, 1, none⟩ = some (.slice a' es.length cap')) := c1
  have HE1 : Hid (EntsAt w1 (.slice a' es.length cap') es) := HE.out.below HB1.out
  clear hb1 ht hg c1
  rw [World.size_alloc] at HG hz ⊢
  have hnm : n < maxLen := by unfold maxLen; omega
  go_wp2_with (first
    | (at_lookup; refine wpList_lookup_groups _ rfl _ _ 76 rfl 9 77 3 .i64 stemKey Try.underlying76 (zero_ints152 _) (w.heap.size + 1 + 2) (w.heap.size + 1 + 1) n D rfl HG.out hnm _ _ rfl hkey ?_; intro v zs hat hoi hzl hback; obtain ⟨b0, cq, rfl⟩ := owns_form hoi.1)
    | go_in)
  have hzs := told_at HT.out hkey hoi hat
  rw [HPL.out] at hzs
  subst hzs
  have HOI : Hid (w1.ownsInts (w.heap.size + 1 + 2) 3 .i64 (.slice b0 (ats.map (fun (n : Nat) => (n : Int))).length cq) (ats.map (fun (n : Nat) => (n : Int)))) := hoi
  rw [List.length_map] at HOI ⊢
  clear hat hoi hback hzl hkey HG
  go_loopw [5, 13] (fun st i wr => ∃ (j : Nat) (v0 : Value), j ≤ ats.length ∧ st = v0 ∧ i = .int .i64 j ∧ wr.ownsRow w1.heap.size 9 1 v0 ((ats.take j).map (stemAt es)).length (texts ((ats.take j).map (stemAt es))) ∧ Below w1.heap.size w1 wr) (fun _ i _ => ats.length - (intOf i).toNat)
  case atStart => exact ⟨0, _, Nat.zero_le _, rfl, rfl, World.ownsRow_nil _ _ _ _, Below.refl _ _⟩
  case round =>
    obtain ⟨j, v0, hj, rfl, rfl, ho, hb⟩ := hrel
    obtain ⟨SS, hSS⟩ : ∃ SS, (ats.take j).map (stemAt es) = SS := ⟨_, rfl⟩
    rw [hSS] at ho
    have HSS : Hid ((ats.take j).map (stemAt es) = SS) := hSS
    have hsl : SS.length ≤ 24 := by rw [← hSS, List.length_map, List.length_take]; omega
    obtain ⟨b1, c1, rfl⟩ := owns_form ho
    have HO : Hid (wr.ownsRow w1.heap.size 9 1 (.slice b1 SS.length c1) SS.length (texts SS)) := ho
    have HB : Hid (Below w1.heap.size w1 wr) := hb
    have hws : w1.heap.size ≤ wr.heap.size := hb.size
    clear ho hb hSS
    by_cases hlt : j < ats.length
    · have hne : (ats.map (fun (n : Nat) => (n : Int))) ≠ [] := by intro e; rw [List.map_eq_nil_iff] at e; subst e; simp at hlt
      obtain ⟨g, rfl⟩ : ∃ g, b0 = some ⟨g, 0, none⟩ := by
        rcases HOI.out.1.2 with ⟨h1, h2⟩ | ⟨g, cap, cur, h1, _⟩
        · rw [List.length_eq_zero_iff] at h2
          exact absurd h2 hne
        · simp only [Value.slice.injEq] at h1
          exact ⟨g, h1.1⟩
      have hgl : g < w1.heap.size := (HOI.out.1.lt g rfl).2
      obtain ⟨m, hm2⟩ : ∃ m, ats[j]? = some m := ⟨_, List.getElem?_eq_getElem hlt⟩
      have hml := HLT.out m (List.mem_of_getElem? hm2)
      have d0 : wr.cell? ⟨g, 0 + j, none⟩ = some (.int .i64 (m : Int)) := by
        rw [Nat.zero_add, HB.out.cell (p := ⟨g, j, none⟩) hgl]
        have h := HOI.out.1
        rw [List.length_map] at h
        rw [h.cellAt j (by omega)]
        simp [hm2]
      have d0' : wr.cell? ⟨g, j, none⟩ = some (.int .i64 (m : Int)) := by rw [Nat.zero_add] at d0; exact d0
      obtain ⟨b, off, cap2, x, hv, hbl, hx, hxf, e0, e1⟩ := (HE1.out.below HB.out).at hml
      cases hv
      obtain ⟨st, fl⟩ := x
      simp only at e0 e1 hxf
      have HNX : Hid ((ats.take (j + 1)).map (stemAt es) = SS ++ [st]) := by
        show List.map _ _ = _
        rw [List.take_add_one, hm2, List.map_append, HSS.out]
        simp [stemAt, hx]
      have d1 := (HB.out.cell (p := ⟨w.heap.size, 1, none⟩) (by simp; omega)).trans C1.out
      have i0 : (0 : Int) ≤ (m : Int) := by omega
      have i1 : (m : Int) < (es.length : Int) := by omega
      clear hx hxf e1 hm2
      go_wp2_with (at_builtin; refine wpList_append_own _ rfl _ _ 28 rfl w1.heap.size 9 i3 (.string ⟨#[]⟩) 1 16 Try.underlying28 hi3 hz3 hs3 hb3 rfl (by decide) _ _ _ rfl (HO.out.alloc _) ⟨_, 0, none⟩ 1 1 [.string st] rfl rfl (cell_one_new _ _ _) (one_text st) (by unfold maxLen; omega) (by omega) (by rw [World.size_alloc]; omega) ?_; intro v' w5 hown hgrow hnil)
      go_roundw
      case rel =>
        refine ⟨j + 1, _, by omega, rfl, by go_num, ?_, Below.grown (HB.out.alloc HB.out.size _) hgrow (by rw [World.size_alloc]; omega) (fun k' hk' => (HO.out.lt k' hk').1)⟩
        rw [HNX.out, List.length_append, texts_append]
        exact hown
      case measure => simp [intOf]; omega
    · have hje : j = ats.length := by omega
      subst hje
      have hT : SS = stemsT xs es s := by rw [← HSS.out, List.take_length, HST.out]
      have HST2 : Hid (stemsT xs es s = SS) := hT.symm
      have HSZ2 : Hid (∀ (i : Nat) (x : ByteArray), SS[i]? = some x → x.size ≤ maxLen) := by rw [hT, HST.out]; exact HSZ.out
      clear hT
      go_wp2
      go_ret
      refine ⟨_, rfl, ⟨?_, ?_⟩, HB1.out.trans (HB.out.mono HB1.out.size)⟩
      · rw [HST2.out]
        refine (rowOwn_of_owns HO.out (C := TxTo SS.length SS) (fun f hf i x hi hx => hf i _ ?_)).weak HB1.out.size (Nat.le_refl _)
        simp [texts, hx]
      · rw [HST2.out]
        exact HSZ2.out
end Go.Proofs.Ythikcililececaa
