/-
  impl.wordStems: words of a book with the places of the entries that make them.
-/
import Derived.Test.YthedglgljehmgaaGreatDoorGW154
import Derived.Test.YthedglgljehmgaaGreatDoorW133
import Derived.Maps.GroupsBeside
namespace Go.Proofs.YthedglgljehmgaaGreatDoor
open Go.RowKit Go.Maps Go.WideMaps
set_option linter.unusedVariables false
theorem stemKey : Keyed Tryz.prog 9 := string_keyed Tryz.underlying9
theorem info_int152 : (Tryz.prog.info? 3).map (fun i => (i.zero, i.size, i.bytes)) = some (some (.int .i64 0), 1, 8) := by kernel_rfl
theorem zero_ints152 (w : World) : (zeroValue 60).run Tryz.prog w = .ok (.slice none 0 0) w := by kernel_rfl
theorem cell_heap {w w' : World} {g : Nat} (h : w'.heap[g]? = w.heap[g]?) (i : Nat) : w'.cell? ⟨g, i, none⟩ = w.cell? ⟨g, i, none⟩ := by
  simp [World.cell?, h]
/-- Where texts of one's own lie. -/
theorem TextsOwn.lies {lo : Nat} {w : World} {v : Value} {fs : List ByteArray} (h : TextsOwn lo w v fs) : ∃ a cap g, v = .slice a fs.length cap ∧ fs.length ≤ maxLen ∧ lo ≤ g ∧ (∀ (i : Nat) (x : ByteArray), fs[i]? = some x → a = some ⟨g, 0, none⟩ ∧ g < w.heap.size ∧ x.size ≤ maxLen ∧ w.cell? ⟨g, i, none⟩ = some (.string x)) := by
  obtain ⟨a, cap, hv, hc, hm, hf, hh⟩ := h
  by_cases hn : fs = []
  · subst hn
    exact ⟨a, cap, lo, hv, Nat.zero_le _, Nat.le_refl _, fun i x hx => by simp at hx⟩
  · obtain ⟨g, n, f, ha, hlo, hle, hr, hx⟩ := hh hn
    refine ⟨a, cap, g, hv, Nat.le_trans hc hm, hlo, fun i x hi => ⟨ha, hr.lt, hf i x hi, ?_⟩⟩
    have hlt : i < fs.length := (List.getElem?_eq_some_iff.1 hi).1
    exact (hr.cell (by omega)).trans (by rw [hx i x hi])
theorem told_take {P : Program} {k : TypeId} {D : DataW Unit} {ps : List (ByteArray × Nat)} {fs : List ByteArray} {at_ j : Nat} {s : ByteArray} (hs : fs[j]? = some s) (h : Told P k D ((ps ++ (fs.take j).map (fun x => (x, at_))) ++ [(s, at_)])) : Told P k D (ps ++ (fs.take (j + 1)).map (fun x => (x, at_))) := by
  rw [List.take_add_one, hs]
  simpa using h
set_option maxRecDepth 100000 in
set_option maxHeartbeats 4000000 in
theorem wordStems_any (w : World) (va ve : Value) (xs : List Aff) (es : List (ByteArray × ByteArray)) (ha : AffsAt w va xs) (he : EntsAt w ve es) :
    Calls Tryz.prog 25 #[.agg #[va, ve]] w fun e w' => ∃ (n : Nat) (D : DataW Unit), e = .returned (.map (some (w.heap.size + 1))) ∧ w'.ownsGroups Tryz.prog 9 (w.heap.size + 2) 3 .i64 (w.heap.size + 1) n D ∧ n ≤ 2400 ∧ Told Tryz.prog 9 D (pairsT xs es) ∧ Below w.heap.size w w' ∧ w.heap.size + 2 ≤ w'.heap.size := by
  obtain ⟨a, cap, rfl, hc, hm⟩ := ha.form
  obtain ⟨a', cap', rfl, hc', hm'⟩ := he.form
  have HA : Hid (AffsAt w (.slice a xs.length cap) xs) := ha
  have HE : Hid (EntsAt w (.slice a' es.length cap') es) := he
  clear ha he
  have hmm := @run_makeMap Tryz.prog
  obtain ⟨i0, hi, qz0, qz1, qz2⟩ := info_parts info_int152
  have HB0 : Hid (Below w.heap.size w ((w.alloc (.cells #[.slice a xs.length cap, .slice a' es.length cap'] 26)).alloc (.map #[] 0))) := ((Below.refl _ _).alloc (Nat.le_refl _) _).alloc (by simp <;> omega) _
  have HG0 : Hid (World.ownsGroups (H := Unit) ((w.alloc (.cells #[.slice a xs.length cap, .slice a' es.length cap'] 26)).alloc (.map #[] 0)) Tryz.prog 9 (w.heap.size + 2) 3 .i64 (w.heap.size + 1) 0 (.map [])) := by
    have := World.ownsGroups_made (H := Unit) (w.alloc (.cells #[.slice a xs.length cap, .slice a' es.length cap'] 26)) Tryz.prog 9 3 .i64
    rw [World.size_alloc] at this
    exact this
  have HN0 : Hid (World.Shuns ((w.alloc (.cells #[.slice a xs.length cap, .slice a' es.length cap'] 26)).alloc (.map #[] 0)) (w.heap.size + 1) (fun _ => False)) := fun _ _ _ _ _ _ _ h => h
  cases hbk : bookT xs es with
  | false =>
    have HP : Hid (pairsT xs es = []) := if_neg (by rw [hbk]; decide)
    go_enter Tryz.func25, Tryz.ntmps25
    go_wp2_with fail
    refine (implBookOk_any _ _ _ xs es (HA.out.below HB0.out) (HE.out.below HB0.out)).mono ?_
    rintro e w1 ⟨rfl, hb1⟩
    rw [hbk]
    have HB1 : Hid (Below w.heap.size w w1) := HB0.out.trans (hb1.mono HB0.out.size)
    have HG1 : Hid (World.ownsGroups (H := Unit) w1 Tryz.prog 9 (w.heap.size + 2) 3 .i64 (w.heap.size + 1) 0 (.map [])) := groups_below HG0.out hb1
    have hz : w.heap.size + 2 ≤ w1.heap.size := by have := hb1.size; simp at this; omega
    clear hb1
    go_wp2
    go_ret
    rw [HP.out]
    exact ⟨0, _, rfl, HG1.out, Nat.zero_le _, told_none _ _, HB1.out, hz⟩
  | true =>
    have HP : Hid (pairsT xs es = pairsTo xs es es.length) := if_pos hbk
    have hl24 := bookT_len hbk
    go_enter Tryz.func25, Tryz.ntmps25
    go_wp2_with fail
    refine (implBookOk_any _ _ _ xs es (HA.out.below HB0.out) (HE.out.below HB0.out)).mono ?_
    rintro e w1 ⟨rfl, hb1⟩
    rw [hbk]
    have HB1 : Hid (Below w.heap.size w w1) := HB0.out.trans (hb1.mono HB0.out.size)
    have HG1 : Hid (World.ownsGroups (H := Unit) w1 Tryz.prog 9 (w.heap.size + 2) 3 .i64 (w.heap.size + 1) 0 (.map [])) := groups_below HG0.out hb1
    have hz : w.heap.size + 2 ≤ w1.heap.size := by have := hb1.size; simp at this; omega
    have c0 : w1.cell? ⟨w.heap.size, 0, none⟩ = some (.slice a xs.length cap) := (hb1.cell (p := ⟨w.heap.size, 0, none⟩) (by simp <;> omega)).trans (by simp [go_sem])
    have c1 : w1.cell? ⟨w.heap.size, 1, none⟩ = some (.slice a' es.length cap') := (hb1.cell (p := ⟨w.heap.size, 1, none⟩) (by simp <;> omega)).trans (by simp [go_sem])
    have C0 : Hid (w1.cell? ⟨w.heap.size, 0, none⟩ = some (.slice a xs.length cap)) := c0
    have HA1 : Hid (AffsAt w1 (.slice a xs.length cap) xs) := HA.out.below HB1.out
    have HE1 : Hid (EntsAt w1 (.slice a' es.length cap') es) := HE.out.below HB1.out
    clear hb1 c0 HG0 HN0 HB0 HA1 HE1
    go_wp2
    go_loopw [16] (fun i wr => ∃ (k n : Nat) (D : DataW Unit), k ≤ es.length ∧ i = .int .i64 k ∧ wr.ownsGroups Tryz.prog 9 (w.heap.size + 2) 3 .i64 (w.heap.size + 1) n D ∧ n ≤ 100 * k ∧ Told Tryz.prog 9 D (pairsTo xs es k) ∧ Below (w.heap.size + 1) w1 wr ∧ w1.heap.size ≤ wr.heap.size) (fun i _ => es.length - (intOf i).toNat)
    case atStart => exact ⟨0, 0, _, Nat.zero_le _, rfl, HG1.out, Nat.le_refl _, told_none _ _, Below.refl _ _, Nat.le_refl _⟩
    case round =>
      obtain ⟨k, n, D, hk, rfl, hg, hn, ht, hb, hsz⟩ := hrel
      have HG : Hid (World.ownsGroups (H := Unit) wr Tryz.prog 9 (w.heap.size + 2) 3 .i64 (w.heap.size + 1) n D) := hg
      have HT : Hid (Told Tryz.prog 9 D (pairsTo xs es k)) := ht
      have HB : Hid (Below (w.heap.size + 1) w1 wr) := hb
      clear hg ht hb c1 HG1
      by_cases hlt : k < es.length
      · have HBW : Hid (Below w.heap.size w wr) := HB1.out.trans (HB.out.mono (Nat.le_succ _))
        obtain ⟨b, off, cap2, x, hv, hbl, hx, hxf, e0, e1⟩ := (HE.out.below HBW.out).at hlt
        cases hv
        obtain ⟨st, fl⟩ := x
        have HX : Hid (es[k]? = some (st, fl)) := hx
        simp only at e0 e1 hxf
        have HXF : Hid (st.size ≤ maxLen ∧ fl.size ≤ maxLen) := hxf
        have d0 := (HB.out.cell (p := ⟨w.heap.size, 0, none⟩) (by simp)).trans C0.out
        have HXA : Hid (Below wr.heap.size wr (wr.alloc (.cells #[.string st, .string fl] 80))) := (Below.refl _ _).alloc (Nat.le_refl _) _
        have hzr : w.heap.size < wr.heap.size := by omega
        clear hx hxf
        go_wp2_with fail
        refine (implForms_any _ _ xs st fl ((HA.out.below HBW.out).below HXA.out) HXF.out.1 HXF.out.2).mono ?_
        rintro e w2 ⟨vf, rfl, hf, hb2⟩
        obtain ⟨af, capf, gF, rfl, hfm, hlo, hat⟩ := hf.lies
        have hfl := (formsT_small xs st fl).1
        obtain ⟨fs, hfs⟩ : ∃ fs, formsT xs st fl = fs := ⟨_, rfl⟩
        have HFS : Hid (formsT xs st fl = fs) := hfs
        rw [hfs] at hat hfl hfm
        rw [hfs]
        have HAT : Hid (∀ (i : Nat) (x : ByteArray), fs[i]? = some x → af = some ⟨gF, 0, none⟩ ∧ gF < w2.heap.size ∧ x.size ≤ maxLen ∧ w2.cell? ⟨gF, i, none⟩ = some (.string x)) := hat
        rw [World.size_alloc] at hlo
        have HBF : Hid (Below wr.heap.size wr w2) := HXA.out.trans (hb2.mono (by simp))
        have HG2 : Hid (World.ownsGroups (H := Unit) w2 Tryz.prog 9 (w.heap.size + 2) 3 .i64 (w.heap.size + 1) n D) := groups_below HG.out HBF.out
        have HS2 : Hid (w2.Shuns (w.heap.size + 1) (fun g => g = gF)) := World.Shuns.kept (row := none) (World.Shuns.reno (No := fun _ => False) (fun _ _ _ _ _ _ _ h => h) HG.out (fun g hg => .inr (by omega))) (grown150 HBF.out _) (by omega) (by simp)
        have HB2 : Hid (Below (w.heap.size + 1) w1 w2) := HB.out.trans (HBF.out.mono (by omega))
        have hz2 : wr.heap.size < w2.heap.size := by have := hb2.size; simp at this; omega
        clear hb2 hf hat hfs e0 e1 d0 HG
        go_wp2
        go_loopw [26] (fun i wi => ∃ (j m : Nat) (Di : DataW Unit), j ≤ fs.length ∧ i = .int .i64 j ∧ wi.ownsGroups Tryz.prog 9 (w.heap.size + 2) 3 .i64 (w.heap.size + 1) m Di ∧ m ≤ n + j ∧ Told Tryz.prog 9 Di (pairsTo xs es k ++ (fs.take j).map (fun x => (x, k))) ∧ wi.Shuns (w.heap.size + 1) (fun g => g = gF) ∧ wi.heap[gF]? = w2.heap[gF]? ∧ Below (w.heap.size + 1) w1 wi ∧ w2.heap.size ≤ wi.heap.size) (fun i _ => fs.length - (intOf i).toNat)
        case atStart => exact ⟨0, n, D, Nat.zero_le _, rfl, HG2.out, Nat.le_refl _, by simpa using HT.out, HS2.out, rfl, HB2.out, Nat.le_refl _⟩
        case round =>
          rename World => wi
          obtain ⟨j, m, Di, hj, rfl, hg, hm2, ht, hsn, hgf, hb, hsi⟩ := hrel
          have HGi : Hid (World.ownsGroups (H := Unit) wi Tryz.prog 9 (w.heap.size + 2) 3 .i64 (w.heap.size + 1) m Di) := hg
          have HTi : Hid (Told Tryz.prog 9 Di (pairsTo xs es k ++ (fs.take j).map (fun x => (x, k)))) := ht
          have HSi : Hid (wi.Shuns (w.heap.size + 1) (fun g => g = gF)) := hsn
          have HFi : Hid (wi.heap[gF]? = w2.heap[gF]?) := hgf
          have HBi : Hid (Below (w.heap.size + 1) w1 wi) := hb
          clear hg ht hsn hgf hb
          by_cases hlj : j < fs.length
          · obtain ⟨s, hs⟩ : ∃ s, fs[j]? = some s := ⟨_, List.getElem?_eq_getElem hlj⟩
            have HSS : Hid (fs[j]? = some s) := hs
            obtain ⟨haf, hgl, hss, hcell⟩ := HAT.out j s hs
            subst haf
            have d1 : wi.cell? ⟨gF, 0 + j, none⟩ = some (.string s) := by rw [Nat.zero_add]; exact (cell_heap HFi.out j).trans hcell
            have d1' : wi.cell? ⟨gF, j, none⟩ = some (.string s) := (cell_heap HFi.out j).trans hcell
            have hkey := keyOf_string_mk Tryz.underlying9 hss
            have hnm : m < maxLen := by unfold maxLen; omega
            clear hs hcell
            go_wp2_with (first
              | (at_lookup; refine wpList_lookup_groups_shuns _ rfl _ _ 56 rfl 9 60 3 .i64 stemKey Tryz.underlying56 (zero_ints152 _) (w.heap.size + 2) (w.heap.size + 1) m Di rfl HGi.out hnm _ _ rfl hkey ?_; intro v zs hat hoi hzl hback hsh)
              | (at_builtin; refine wpList_append_own_at _ rfl _ _ 60 rfl (w.heap.size + 2) 3 i0 (.int .i64 0) 1 8 Tryz.underlying60 hi qz0 qz1 qz2 rfl (by decide) _ _ _ rfl (hoi.1.alloc _) ⟨wi.heap.size, 0, none⟩ 1 1 [.int .i64 k] rfl rfl (cell_one_new _ _ _) (ints_oneCell .i64 [(k : Int)]) (by unfold maxLen; omega) (by omega) (by simp; omega) ?_; intro v' w3 hown' hgrow hnil hloc)
              | (at_mapUpdate; have hno : ∀ g, v'.ownBlock = some g → ¬ (fun g => g = gF) g := (fun g hg e => by subst e; rcases hloc with h | h; (rw [h] at hg; exact hsh _ HSi.out _ hg rfl); (rw [h] at hg; simp at hg; omega)); refine wpList_mapUpdate_back_shuns _ rfl _ _ _ 56 rfl stemKey Tryz.underlying56 hkey HGi.out hnm hoi HSi.out hno hback rfl rfl rfl ((World.grownBy_alloc _ _ _).trans hgrow) (hoi.appended hown' (WalkArith.wf_i64 (by omega))) (by simp; omega) (hloc.imp id (fun h => ⟨_, h, by simp⟩)) ?_; intro w4 hown2 hgrow2 hsh2)
              | go_in)
            have hall := (World.grownBy_alloc wi _ _).trans hgrow
            go_roundw
            case rel =>
              have hzs := told_at HTi.out hkey hoi hat
              refine ⟨j + 1, m + 1, _, by omega, by go_num, hown2, by omega, told_take HSS.out ?_, hsh2, ?_, HBi.out.groups hoi hall hgrow2 (by omega) (by omega) (by omega), Nat.le_trans hsi (Nat.le_trans hall.size hgrow2.size)⟩
              · rw [(hoi.appended hown' (WalkArith.wf_i64 (by omega))).datum_pos (by simp), hzs]
                exact told_step stemKey HTi.out hkey k
              · refine (hgrow2.block gF ?_ ?_).trans ((hall.block gF (by omega) (fun e => hsh _ HSi.out gF e.symm rfl)).trans HFi.out)
                · exact Nat.lt_of_lt_of_le (Nat.lt_of_lt_of_le hgl hsi) hall.size
                · intro e; simp at e; omega
            case measure => simp [intOf]; omega
          · have hje : j = fs.length := by omega
            subst hje
            go_wp2
            go_roundw
            case rel =>
              refine ⟨k + 1, m, Di, by omega, by go_num, HGi.out, by omega, ?_, HBi.out, by omega⟩
              have h := HTi.out
              rw [List.take_length, ← HFS.out] at h
              unfold pairsTo
              rw [HX.out]
              exact h
            case measure => simp [intOf]; omega
      · have hke : k = es.length := by omega
        subst hke
        go_wp2
        go_ret
        rw [HP.out]
        exact ⟨n, D, rfl, HG.out, by omega, HT.out, HB1.out.trans (HB.out.mono (Nat.le_succ _)), by omega⟩
end Go.Proofs.YthedglgljehmgaaGreatDoor
