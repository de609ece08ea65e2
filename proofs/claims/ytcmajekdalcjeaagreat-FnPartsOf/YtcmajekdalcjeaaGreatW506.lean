/-
  The law FnPartsOf.
-/
import Derived.Test.YtcmajekdalcjeaaGreatGW504
import Derived.Test.YtcmajekdalcjeaaGreatGW503
import Derived.Test.YtcmajekdalcjeaaGreatGW92
import Derived.Test.YtcmajekdalcjeaaGreatGW170
namespace Go.Proofs.YtcmajekdalcjeaaGreat
open Go.RowKit
set_option linter.unusedVariables false
set_option maxRecDepth 100000 in
set_option maxHeartbeats 4000000 in
theorem fnPartsOf_walk (a : Option Addr) (len cap : Nat) (zs : List Int) (w : World) (h : IsRow .u8 w a len cap zs) :
    Calls Tryz.prog 3 #[.slice a len cap] w fun e w' => e = .returned (.bool true) ∧ Below w.heap.size w w' := by
  by_cases h1 : (1048576 : Int) < (len : Int)
  · clear h
    go_enter Tryz.func3, Tryz.ntmps3
    go_wp2
    go_ret
    exact ⟨rfl, Below.refl _ _⟩
  have HI : Hid (IsRow .u8 w a len cap zs) := h
  clear h
  go_enter Tryz.func3, Tryz.ntmps3
  go_wp2_with fail
  refine (drawPartsOf_any w a len cap zs HI.out).mono ?_
  rintro e w1 ⟨va, ve, xs, es, s, rfl, hva, hve, hs60, -, -, -, -, hb1⟩
  have HM : Hid (s.size ≤ maxLen) := by show _ ≤ _; unfold maxLen; omega
  obtain ⟨b0, c0, rfl, -⟩ := hva.form
  obtain ⟨b1, c1, rfl, -⟩ := hve.form
  obtain ⟨w2, hw2⟩ : ∃ x, w1.alloc (.cells #[.slice b0 xs.length c0, .slice b1 es.length c1] 26) = x := ⟨_, rfl⟩
  have hb12 : Below w1.heap.size w1 w2 := by rw [← hw2]; exact (Below.refl w1.heap.size w1).alloc (Nat.le_refl _) _
  have HA : Hid (AffsAt w2 (.slice b0 xs.length c0) xs) := hva.below hb12
  have HE : Hid (EntsAt w2 (.slice b1 es.length c1) es) := hve.below hb12
  have HB2 : Hid (Below w.heap.size w w2) := hb1.trans (hb12.mono hb1.size)
  have hz2 : w1.heap.size < w2.heap.size := by rw [← hw2]; simp
  have hbx : w2.heap[w1.heap.size]? = some (.cells #[.slice b0 xs.length c0, .slice b1 es.length c1] 26 (0, 0)) := by rw [← hw2]; exact heap_alloc_last w1 _
  have HX : Hid (∀ w', Below w2.heap.size w2 w' → w'.cell? ⟨w1.heap.size, 0, none⟩ = some (.slice b0 xs.length c0) ∧ w'.cell? ⟨w1.heap.size, 1, none⟩ = some (.slice b1 es.length c1)) := fun w' hb => ⟨by rw [cell_of_row _ _ 0 _ _ _ ((hb.block _ hz2).trans hbx)]; rfl, by rw [cell_of_row _ _ 1 _ _ _ ((hb.block _ hz2).trans hbx)]; rfl⟩
  obtain ⟨L, hL⟩ : ∃ L, poT xs es s = L := ⟨_, rfl⟩
  have HL : Hid (poT xs es s = L) := hL
  have HARE : Hid (L ≠ [] → (∀ x ∈ L, knowsT xs es x = true ∧ 3 ≤ x.size) ∧ catT L = s ∧ (L.length = 2 ∨ L.length = 3)) := po_are hL
  have HLN : Hid (L.length ≤ 3) := by show _ ≤ _; rw [← hL]; exact fewT_len _ _
  clear hva hve hb1 hb12 hbx hL
  obtain ⟨x0, x1⟩ := HX.out w2 (Below.refl _ _)
  go_wp2_with fail
  try rw [hw2]
  clear hw2
  refine (implPartsOf_any w2 _ _ xs es s HA.out HE.out HM.out).mono ?_
  rw [HL.out]
  rintro e w3 ⟨v3, rfl, ht3, hb3⟩
  obtain ⟨a3, c3, rfl, hc3, hm3⟩ := ht3.at.form
  have HB3 : Hid (Below w2.heap.size w2 w3) := hb3
  have HT3 : Hid (TextsAt w3 (.slice a3 L.length c3) L) := ht3.at
  clear hb3 ht3 x0 x1
  obtain ⟨x0, x1⟩ := HX.out w3 HB3.out
  go_wp2_with fail
  refine (specPartsOf_any w3 _ _ xs es s (HA.out.below HB3.out) (HE.out.below HB3.out) HM.out).mono ?_
  rw [HL.out]
  rintro e w4 ⟨v4, rfl, ht4, hb4⟩
  have HB4 : Hid (Below w2.heap.size w2 w4) := HB3.out.trans (hb4.mono HB3.out.size)
  have HT4 : Hid (TextsAt w4 v4 L) := ht4
  have HT3b : Hid (TextsAt w4 (.slice a3 L.length c3) L) := HT3.out.below hb4
  clear hb4 ht4 x0 x1
  obtain ⟨x0, x1⟩ := HX.out w4 HB4.out
  go_wp2_with fail
  refine (mdTexts_same w4 _ _ L HT3b.out HT4.out).mono ?_
  rintro e w5 ⟨rfl, hb5⟩
  have HB5 : Hid (Below w2.heap.size w2 w5) := HB4.out.trans (hb5.mono HB4.out.size)
  have HT5 : Hid (TextsAt w5 (.slice a3 L.length c3) L) := HT3b.out.below hb5
  clear hb5 x0 x1
  obtain ⟨x0, x1⟩ := HX.out w5 HB5.out
  by_cases hn : L = []
  · have hl0 : L.length = 0 := by rw [hn]; rfl
    rw [hl0] at hc3 HT5 ⊢
    go_wp2_with fail
    refine (specPartsOf_any w5 _ _ xs es s (HA.out.below HB5.out) (HE.out.below HB5.out) HM.out).mono ?_
    rw [HL.out]
    rintro e w6 ⟨v6, rfl, ht6, hb6⟩
    have HB6 : Hid (Below w2.heap.size w2 w6) := HB5.out.trans (hb6.mono HB5.out.size)
    have HT6 : Hid (TextsAt w6 v6 L) := ht6
    have HT5b : Hid (TextsAt w6 (.slice a3 0 c3) L) := HT5.out.below hb6
    clear hb6 ht6 x0 x1
    go_wp2_with fail
    refine (mdTexts_same w6 _ _ L HT5b.out HT6.out).mono ?_
    rintro e w7 ⟨rfl, hb7⟩
    have HB7 : Hid (Below w.heap.size w w7) := HB2.out.trans ((HB6.out.trans (hb7.mono HB6.out.size)).mono HB2.out.size)
    clear hb7
    go_wp2
    go_ret
    exact ⟨rfl, HB7.out⟩
  · obtain ⟨hk, hcat, hlen⟩ := HARE.out hn
    have hlp : 0 < L.length := List.length_pos_iff.2 hn
    have hli : ((L.length : Int) == 0) = false := by simp; omega
    have HK : Hid (∀ x ∈ L, knowsT xs es x = true ∧ 3 ≤ x.size) := hk
    have HC : Hid (catT L = s) := hcat
    have HLL : Hid (L.length = 2 ∨ L.length = 3) := hlen
    unfold maxLen at hm3
    have hl3 : (L.length : Int) ≤ 3 := by have := HLN.out; omega
    clear hk hcat hlen x0 x1
    go_wp2_with fail
    go_loopw [6, 7] (fun al i wr => ∃ (k : Nat) (C : ByteArray), k ≤ L.length ∧ al = .string C ∧ i = .int .i64 k ∧ C = catT (L.take k) ∧ C.size ≤ 1000 * k ∧ Below w5.heap.size w5 wr) (fun _ i _ => L.length - (intOf i).toNat)
    case atStart => exact ⟨0, _, Nat.zero_le _, rfl, rfl, rfl, Nat.zero_le _, Below.refl _ _⟩
    case round =>
      obtain ⟨k, C, hkl, rfl, rfl, hC, hCs, hb⟩ := hrel
      have HBr : Hid (Below w5.heap.size w5 wr) := hb
      have HCC : Hid (C = catT (L.take k)) := hC
      clear hb hC
      have HB2r : Hid (Below w2.heap.size w2 wr) := HB5.out.trans (HBr.out.mono HB5.out.size)
      obtain ⟨x0, x1⟩ := HX.out wr HB2r.out
      by_cases hlt : k < L.length
      · have hlti : (k : Int) < (L.length : Int) := by omega
        have hk0 : (0 : Int) ≤ (k : Int) := by omega
        obtain ⟨b, off, cap1, x, hv, hbl, hx, hxf, y0⟩ := HT5.out.at hlt
        cases hv
        have HXL : Hid (L[k]? = some x) := hx
        obtain ⟨hkx, hx3⟩ := HK.out x (List.mem_of_getElem? hx)
        have hxs : x.size ≤ 1000 := by
          have h9 := fewT_fit (knowsT xs es) s x (by have h8 := HL.out; unfold poT at h8; rw [h8]; exact List.mem_of_getElem? hx)
          omega
        have hd3 : decide ((x.size : Int) < 3) = false := decide_eq_false (by omega)
        have HKX : Hid (knowsT xs es x = true) := hkx
        have q1 : IntKind.i64.wrap ((k : Int) + 1) = ((k + 1 : Nat) : Int) := by rw [IntWalk.i64_in _ (by omega)]; omega
        obtain ⟨C2, hC2⟩ : ∃ T, C ++ x = T := ⟨_, rfl⟩
        have HC2 : Hid (C2 = catT (L.take (k + 1)) ∧ C2.size ≤ 1000 * (k + 1)) := ⟨by rw [← hC2, cat_take HXL.out, HCC.out], by rw [← hC2, ByteArray.size_append]; omega⟩
        have r1 : ∀ w : World, (Op.stringOp .add C x).run Tryz.prog w = .ok (.string C2) w := fun w => by rw [run_string_add_sum w _ _ (by omega), hC2]
        have hz5 : b < w5.heap.size := hbl
        have HY : Hid (∀ V, Below wr.heap.size wr V → V.cell? ⟨w1.heap.size, 0, none⟩ = some (.slice b0 xs.length c0) ∧ V.cell? ⟨w1.heap.size, 1, none⟩ = some (.slice b1 es.length c1) ∧ V.cell? ⟨b, off + k, none⟩ = some (.string x)) := fun V hV => ⟨(HX.out V (HB2r.out.trans (hV.mono HB2r.out.size))).1, (HX.out V (HB2r.out.trans (hV.mono HB2r.out.size))).2, ((HBr.out.trans (hV.mono HBr.out.size)).cell (p := ⟨b, off + k, none⟩) hz5).trans y0⟩
        have Kwr : Hid (Below wr.heap.size wr wr) := Below.refl _ _
        have Zwr : Hid (w2.heap.size ≤ wr.heap.size) := HB2r.out.size
        go_wp2_with fail
        refine wp_region_held_drew (S := (fun w' => w'.cell? ⟨w1.heap.size, 0, none⟩ = some (.slice b0 xs.length c0) ∧ w'.cell? ⟨w1.heap.size, 1, none⟩ = some (.slice b1 es.length c1) ∧ w'.cell? ⟨b, off + k, none⟩ = some (.string x))) (by kernel_rfl) ?_ (fun hHeld => ?_)
        · exact HY.out wr (Below.refl _ _)
        refine tk 0 41 (.agg #[.slice b0 xs.length c0, .slice b1 es.length c1]) ?_
        simp only [Act.put, List.setIfInBounds_toArray, List.set_cons_zero, List.set_cons_succ]
        refine tk 1 42 (.slice (some ⟨b, off, none⟩) L.length c3) ?_
        simp only [Act.put, List.setIfInBounds_toArray, List.set_cons_zero, List.set_cons_succ]
        refine tk 2 43 (.int .i64 (k : Int)) ?_
        simp only [Act.put, List.setIfInBounds_toArray, List.set_cons_zero, List.set_cons_succ]
        refine tk 3 44 (.pointer (some ⟨b, off + k, none⟩)) ?_
        simp only [Act.put, List.setIfInBounds_toArray, List.set_cons_zero, List.set_cons_succ]
        refine tk 4 45 (.string x) ?_
        simp only [Act.put, List.setIfInBounds_toArray, List.set_cons_zero, List.set_cons_succ]
        obtain ⟨y0, hx⟩ : ∃ X, World.drew wr = X := ⟨_, rfl⟩
        have Ky0 : Hid (Below wr.heap.size wr y0) := by show Below _ _ _; rw [← hx]; exact (Below.refl _ _).drew
        have Zy0 : Hid (wr.heap.size ≤ y0.heap.size) := by show _ ≤ _; rw [← hx]; exact Nat.le_refl _
        rw [hx]
        clear hx
        refine wpAnyH_ready (rs := [5]) (by kernel_rfl) (by simp) ?_
        refine AllReadyH.cons rfl (fun K hK => ?_) AllReadyH.nil
        go_simp
        refine (implBookKnows_any y0 _ _ xs es x (HA.out.below (HB2r.out.trans (Ky0.out.mono HB2r.out.size))) (HE.out.below (HB2r.out.trans (Ky0.out.mono HB2r.out.size))) (by have : x.size ≤ 1000 := hxs; unfold maxLen; omega)).mono ?_
        rintro e y1 ⟨rfl, hb⟩
        rw [HKX.out]
        have Zy1 : Hid (y0.heap.size ≤ y1.heap.size) := hb.size
        have Ky1 : Hid (Below wr.heap.size wr y1) := Ky0.out.trans (hb.mono Ky0.out.size)
        clear hb
        refine hK.out _ _ ?_ (fun hHeld => ?_)
        · exact HY.out _ Ky1.out
        clear hK K
        try simp only [Act.put, List.setIfInBounds_toArray, List.set_cons_zero, List.set_cons_succ]
        refine tk 6 47 (.bool false) ?_
        simp only [Act.put, List.setIfInBounds_toArray, List.set_cons_zero, List.set_cons_succ]
        refine tk 7 48 (.bool false) ?_
        simp only [Act.put, List.setIfInBounds_toArray, List.set_cons_zero, List.set_cons_succ]
        refine tk 8 49 (.slice (some ⟨b, off, none⟩) L.length c3) ?_
        simp only [Act.put, List.setIfInBounds_toArray, List.set_cons_zero, List.set_cons_succ]
        refine tk 9 50 (.int .i64 (k : Int)) ?_
        simp only [Act.put, List.setIfInBounds_toArray, List.set_cons_zero, List.set_cons_succ]
        refine tk 10 51 (.pointer (some ⟨b, off + k, none⟩)) ?_
        simp only [Act.put, List.setIfInBounds_toArray, List.set_cons_zero, List.set_cons_succ]
        refine tk 11 52 (.string x) ?_
        simp only [Act.put, List.setIfInBounds_toArray, List.set_cons_zero, List.set_cons_succ]
        refine tk 12 53 (.int .i64 (x.size : Int)) ?_
        simp only [Act.put, List.setIfInBounds_toArray, List.set_cons_zero, List.set_cons_succ]
        refine tk 13 54 (.bool false) ?_
        simp only [Act.put, List.setIfInBounds_toArray, List.set_cons_zero, List.set_cons_succ]
        refine tk 14 55 (.bool false) ?_
        simp only [Act.put, List.setIfInBounds_toArray, List.set_cons_zero, List.set_cons_succ]
        refine wpAnyH_done (by kernel_rfl) ?_ _
        obtain ⟨x0, x1, y0⟩ := hHeld
        go_wp2
        go_roundw
        case rel => exact ⟨k + 1, C2, by omega, rfl, by go_num, HC2.out.1, HC2.out.2, HBr.out.trans (Ky1.out.mono HBr.out.size)⟩
        case measure => simp [intOf]; omega
      · have hke : k = L.length := by omega
        have hlti : ¬ ((k : Int) < (L.length : Int)) := by omega
        have hCe : C = s := by rw [HCC.out, hke, List.take_length, HC.out]
        rw [hCe]
        have he : (s.toList == s.toList) = true := by simp
        have HBf : Hid (Below w.heap.size w wr) := HB2.out.trans (HB2r.out.mono HB2.out.size)
        rcases HLL.out with h2 | h2
        · have hi2 : ((L.length : Int) == 2) = true := by simp; omega
          go_wp2
          go_ret
          exact ⟨rfl, HBf.out⟩
        · have hi2 : ((L.length : Int) == 2) = false := by simp; omega
          have hi3 : ((L.length : Int) == 3) = true := by simp; omega
          go_wp2
          go_ret
          exact ⟨rfl, HBf.out⟩
end Go.Proofs.YtcmajekdalcjeaaGreat
