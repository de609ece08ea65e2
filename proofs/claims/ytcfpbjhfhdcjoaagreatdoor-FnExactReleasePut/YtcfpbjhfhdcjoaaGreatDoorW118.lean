/-
  spec.l5Put, spec.DeltaPut, and the law FnExactDeltaPut.
-/
import Derived.Test.YtcfpbjhfhdcjoaaGreatDoorW117
import Derived.Test.YtcfpbjhfhdcjoaaGreatDoorW84
import Derived.Test.YtcfpbjhfhdcjoaaGreatDoorW116
namespace Go.Proofs.YtcfpbjhfhdcjoaaGreatDoor
open Go.RowKit
set_option linter.unusedVariables false
set_option maxRecDepth 100000 in
set_option maxHeartbeats 4000000 in
theorem l5Put_any (w : World) (vg vc vl : Value) (af : Bool) (gs : List ByteArray) (es : List (ByteArray × ByteArray)) (xs : List Aff) (hg : TextsAt w vg gs) (he : EntsAt w vc es) (ha : AffsAt w vl xs) (hok : deltaT gs es af xs = true) :
    Calls Tryz.prog 24 #[.agg #[vg, vc, .bool af, vl]] w fun e w' => e = .returned (.string (mkT (dputL gs es af xs))) ∧ Below w.heap.size w w' := by
  obtain ⟨a, cap, rfl, hc, hm⟩ := hg.form
  obtain ⟨a', cap', rfl, hc', hm'⟩ := he.form
  obtain ⟨a2, cap2, rfl, hc2, hm2⟩ := ha.form
  have HG : Hid (TextsAt w (.slice a gs.length cap) gs) := hg
  have HE : Hid (EntsAt w (.slice a' es.length cap') es) := he
  have HA : Hid (AffsAt w (.slice a2 xs.length cap2) xs) := ha
  unfold maxLen at hm hm' hm2
  obtain ⟨⟨hl8, hl24, hlg⟩, hsa, hse, hsg⟩ := delta_parts hok
  have HSA : Hid (∀ (i : Nat) (x : Aff), xs[i]? = some x → ShortA x) := hsa
  have HSE : Hid (∀ (i : Nat) (x : ByteArray × ByteArray), es[i]? = some x → x.1.size ≤ 1000 ∧ x.2.size ≤ 1000) := hse
  have HSG : Hid (∀ (i : Nat) (x : ByteArray), gs[i]? = some x → x.size ≤ 1000) := hsg
  have HHD : Hid ((headD af).length ≤ 8) := headD_length af
  clear hsa hse hsg hok hg he ha
  obtain ⟨W0, hW0⟩ : ∃ W0, w.alloc (.cells #[.slice a gs.length cap, .slice a' es.length cap', .bool af, .slice a2 xs.length cap2] 34) = W0 := ⟨_, rfl⟩
  have B0 : Hid (Below w.heap.size w W0) := by rw [← hW0]; exact (Below.refl _ _).alloc (Nat.le_refl _) _
  have R0 : Hid (DRow W0 w.heap.size (.slice a gs.length cap) (.slice a' es.length cap') af (.slice a2 xs.length cap2)) := by rw [← hW0]; exact DRow.new _ _ _ _ _
  have c2 := R0.out.c2
  go_enter Tryz.func24, Tryz.ntmps24
  cases af with
  | false =>
    go_wp2
    clear hW0 c2
    go_loopw [3, 4] (fun o i wr => ∃ (k : Nat), k ≤ xs.length ∧ i = .int .i64 k ∧ o = .string (mkT (headD false ++ putA (xs.take k))) ∧ DRow wr w.heap.size (.slice a gs.length cap) (.slice a' es.length cap') false (.slice a2 xs.length cap2) ∧ Below w.heap.size w wr) (fun _ i _ => xs.length - (intOf i).toNat)
    case atStart => exact ⟨0, Nat.zero_le _, rfl, rfl, R0.out, B0.out⟩
    case round =>
      obtain ⟨k, hk, rfl, rfl, hR, hb⟩ := hrel
      have HB : Hid (Below w.heap.size w wr) := hb
      have HR : Hid (DRow wr w.heap.size (.slice a gs.length cap) (.slice a' es.length cap') false (.slice a2 xs.length cap2)) := hR
      have m3 := hR.c3
      clear hb hR
      by_cases hlt : k < xs.length
      · obtain ⟨b, off, cap9, x, hv, hbl, hx, hxf, e0, e1, e2, e3, e4⟩ := (HA.out.below HB.out).at hlt
        cases hv
        have HSX : Hid (ShortA x) := HSA.out k x hx
        have hla := putA_length HSA.out k hk
        have hl1 : (mkT (headD false ++ putA (xs.take k))).size ≤ 100000 := by rw [mk_size, List.length_append]; have := HHD.out; omega
        have hll := lineA_length HSX.out
        have hll2 : (mkT (accJ (affP x) 4)).size ≤ 5005 := by rw [mk_size]; unfold lineA at hll; simp at hll; omega
        have HN : Hid (mkT (headD false ++ putA (xs.take k)) ++ mkT (accJ (affP x) 4) ++ ⟨#[10]⟩ = mkT (headD false ++ putA (xs.take (k + 1)))) := text_of (by rw [bl_app, bl_app, bl_mk, bl_mk, putA_take hx]; simp only [lineA, List.append_assoc]; rfl)
        obtain ⟨f, fr, st, ad, wh⟩ := x
        simp only at e0 e1 e2 e3 e4
        clear hx hxf hll hla
        go_wp2_with fail
        refine (l2AffixPut_any ⟨f, fr, st, ad, wh⟩ _ HSX.out).mono ?_
        rintro e w2 ⟨rfl, hb2⟩
        have HB2 : Hid (Below w.heap.size w w2) := HB.out.trans (hb2.mono HB.out.size)
        have HR2 : Hid (DRow w2 w.heap.size _ _ false _) := HR.out.below hb2
        clear hb2 e0 e1 e2 e3 e4 m3
        generalize hg1 : mkT (headD false ++ putA (xs.take k)) = t1 at *
        generalize hg2 : mkT (accJ (affP ⟨f, fr, st, ad, wh⟩) 4) = t2 at *
        clear hg1 hg2
        go_wp2
        go_roundw
        case rel => exact ⟨k + 1, by omega, by go_num, by rw [← HN.out], HR2.out, HB2.out⟩
        case measure => simp [intOf]; omega
      · obtain rfl : k = xs.length := by omega
        rw [List.take_length]
        have HLX : Hid ((putA xs).length ≤ 5006 * xs.length) := by have := putA_length HSA.out xs.length (Nat.le_refl _); rwa [List.take_length] at this
        rename World => wo
        go_wp2
        go_loopw [3, 5] (fun o i wr => ∃ (k : Nat), k ≤ gs.length ∧ i = .int .i64 k ∧ o = .string (mkT (headD false ++ putA xs ++ putG (gs.take k))) ∧ DRow wr w.heap.size (.slice a gs.length cap) (.slice a' es.length cap') false (.slice a2 xs.length cap2) ∧ Below w.heap.size w wr) (fun _ i _ => gs.length - (intOf i).toNat)
        case atStart => exact ⟨0, Nat.zero_le _, rfl, by simp [putG], HR.out, HB.out⟩
        case round =>
          obtain ⟨k, hk, rfl, rfl, hR, hb⟩ := hrel
          have HBe : Hid (Below w.heap.size w wr) := hb
          have HRe : Hid (DRow wr w.heap.size (.slice a gs.length cap) (.slice a' es.length cap') false (.slice a2 xs.length cap2)) := hR
          have m0 := hR.c0
          clear hb hR
          by_cases hlt : k < gs.length
          · obtain ⟨b, off, cap9, x, hv, hbl, hx, _, e0⟩ := (HG.out.below HBe.out).at hlt
            cases hv
            have hsx := HSG.out k x hx
            have hla := putG_length HSG.out k hk
            have hl1 : (mkT (headD false ++ putA xs ++ putG (gs.take k))).size ≤ 200000 := by rw [mk_size, List.length_append, List.length_append]; have := HHD.out; have := HLX.out; omega
            have HN : Hid (mkT (headD false ++ putA xs ++ putG (gs.take k)) ++ ⟨#[45]⟩ ++ x ++ ⟨#[10]⟩ = mkT (headD false ++ putA xs ++ putG (gs.take (k + 1)))) := text_of (by rw [bl_app, bl_app, bl_app, bl_mk, putG_take hx]; simp only [lineG, List.append_assoc]; rfl)
            clear hx hla
            generalize hg1 : mkT (headD false ++ putA xs ++ putG (gs.take k)) = t1 at *
            clear hg1
            go_wp2
            go_roundw
            case rel => exact ⟨k + 1, by omega, by go_num, by rw [← HN.out], HRe.out, HBe.out⟩
            case measure => simp [intOf]; omega
          · obtain rfl : k = gs.length := by omega
            rw [List.take_length]
            have HLY : Hid ((putG gs).length ≤ 1002 * gs.length) := by have := putG_length HSG.out gs.length (Nat.le_refl _); rwa [List.take_length] at this
            rename World => wp
            go_wp2
            go_loopw [3, 6] (fun o i wr => ∃ (k : Nat), k ≤ es.length ∧ i = .int .i64 k ∧ o = .string (mkT (headD false ++ putA xs ++ putG gs ++ putC (es.take k))) ∧ DRow wr w.heap.size (.slice a gs.length cap) (.slice a' es.length cap') false (.slice a2 xs.length cap2) ∧ Below w.heap.size w wr) (fun _ i _ => es.length - (intOf i).toNat)
            case atStart => exact ⟨0, Nat.zero_le _, rfl, by simp [putC], HRe.out, HBe.out⟩
            case round =>
              obtain ⟨k, hk, rfl, rfl, hR, hb⟩ := hrel
              have HBf : Hid (Below w.heap.size w wr) := hb
              have HRf : Hid (DRow wr w.heap.size (.slice a gs.length cap) (.slice a' es.length cap') false (.slice a2 xs.length cap2)) := hR
              have m1 := hR.c1
              clear hb hR
              by_cases hlt : k < es.length
              · obtain ⟨b, off, cap9, x, hv, hbl, hx, _, e0, e1⟩ := (HE.out.below HBf.out).at hlt
                cases hv
                have HSX := HSE.out k x hx
                have hla := putC_length HSE.out k hk
                have hl1 : (mkT (headD false ++ putA xs ++ putG gs ++ putC (es.take k))).size ≤ 300000 := by rw [mk_size, List.length_append, List.length_append, List.length_append]; have := HHD.out; have := HLX.out; have := HLY.out; omega
                have hlt2 : (mkT (entL x.1 x.2)).size ≤ 2001 := by rw [mk_size]; exact entL_length HSX.1 HSX.2
                have HN : Hid (mkT (headD false ++ putA xs ++ putG gs ++ putC (es.take k)) ++ ⟨#[43]⟩ ++ mkT (entL x.1 x.2) ++ ⟨#[10]⟩ = mkT (headD false ++ putA xs ++ putG gs ++ putC (es.take (k + 1)))) := text_of (by
                  rw [bl_app, bl_app, bl_app, bl_mk, bl_mk, putC_take hx]
                  unfold lineC
                  rw [← entL_line]
                  simp only [List.append_assoc]
                  rfl)
                obtain ⟨s, f⟩ := x
                simp only at e0 e1 HSX hlt2 HN
                have HS1 : Hid (s.size ≤ 1000) := HSX.1
                have HS2 : Hid (f.size ≤ 1000) := HSX.2
                clear hx hla HSX
                generalize hg1 : mkT (headD false ++ putA xs ++ putG gs ++ putC (es.take k)) = t1 at *
                clear hg1
                go_wp2_with fail
                refine (l2EntryPut_any s f _ HS1.out HS2.out).mono ?_
                rintro e w2 ⟨rfl, hb2⟩
                have HB2 : Hid (Below w.heap.size w w2) := HBf.out.trans (hb2.mono HBf.out.size)
                have HR2 : Hid (DRow w2 w.heap.size _ _ false _) := HRf.out.below hb2
                clear hb2 e0 e1 m1
                generalize hg2 : mkT (entL s f) = t2 at *
                clear hg2
                go_wp2
                go_roundw
                case rel => exact ⟨k + 1, by omega, by go_num, by rw [← HN.out], HR2.out, HB2.out⟩
                case measure => simp [intOf]; omega
              · obtain rfl : k = es.length := by omega
                rw [List.take_length]
                go_wp2
                go_ret
                exact ⟨rfl, HBf.out⟩
  | true =>
    go_wp2
    clear hW0 c2
    go_loopw [3, 4] (fun o i wr => ∃ (k : Nat), k ≤ xs.length ∧ i = .int .i64 k ∧ o = .string (mkT (headD true ++ putA (xs.take k))) ∧ DRow wr w.heap.size (.slice a gs.length cap) (.slice a' es.length cap') true (.slice a2 xs.length cap2) ∧ Below w.heap.size w wr) (fun _ i _ => xs.length - (intOf i).toNat)
    case atStart => exact ⟨0, Nat.zero_le _, rfl, rfl, R0.out, B0.out⟩
    case round =>
      obtain ⟨k, hk, rfl, rfl, hR, hb⟩ := hrel
      have HB : Hid (Below w.heap.size w wr) := hb
      have HR : Hid (DRow wr w.heap.size (.slice a gs.length cap) (.slice a' es.length cap') true (.slice a2 xs.length cap2)) := hR
      have m3 := hR.c3
      clear hb hR
      by_cases hlt : k < xs.length
      · obtain ⟨b, off, cap9, x, hv, hbl, hx, hxf, e0, e1, e2, e3, e4⟩ := (HA.out.below HB.out).at hlt
        cases hv
        have HSX : Hid (ShortA x) := HSA.out k x hx
        have hla := putA_length HSA.out k hk
        have hl1 : (mkT (headD true ++ putA (xs.take k))).size ≤ 100000 := by rw [mk_size, List.length_append]; have := HHD.out; omega
        have hll := lineA_length HSX.out
        have hll2 : (mkT (accJ (affP x) 4)).size ≤ 5005 := by rw [mk_size]; unfold lineA at hll; simp at hll; omega
        have HN : Hid (mkT (headD true ++ putA (xs.take k)) ++ mkT (accJ (affP x) 4) ++ ⟨#[10]⟩ = mkT (headD true ++ putA (xs.take (k + 1)))) := text_of (by rw [bl_app, bl_app, bl_mk, bl_mk, putA_take hx]; simp only [lineA, List.append_assoc]; rfl)
        obtain ⟨f, fr, st, ad, wh⟩ := x
        simp only at e0 e1 e2 e3 e4
        clear hx hxf hll hla
        go_wp2_with fail
        refine (l2AffixPut_any ⟨f, fr, st, ad, wh⟩ _ HSX.out).mono ?_
        rintro e w2 ⟨rfl, hb2⟩
        have HB2 : Hid (Below w.heap.size w w2) := HB.out.trans (hb2.mono HB.out.size)
        have HR2 : Hid (DRow w2 w.heap.size _ _ true _) := HR.out.below hb2
        clear hb2 e0 e1 e2 e3 e4 m3
        generalize hg1 : mkT (headD true ++ putA (xs.take k)) = t1 at *
        generalize hg2 : mkT (accJ (affP ⟨f, fr, st, ad, wh⟩) 4) = t2 at *
        clear hg1 hg2
        go_wp2
        go_roundw
        case rel => exact ⟨k + 1, by omega, by go_num, by rw [← HN.out], HR2.out, HB2.out⟩
        case measure => simp [intOf]; omega
      · obtain rfl : k = xs.length := by omega
        rw [List.take_length]
        have HLX : Hid ((putA xs).length ≤ 5006 * xs.length) := by have := putA_length HSA.out xs.length (Nat.le_refl _); rwa [List.take_length] at this
        rename World => wo
        go_wp2
        go_loopw [3, 5] (fun o i wr => ∃ (k : Nat), k ≤ gs.length ∧ i = .int .i64 k ∧ o = .string (mkT (headD true ++ putA xs ++ putG (gs.take k))) ∧ DRow wr w.heap.size (.slice a gs.length cap) (.slice a' es.length cap') true (.slice a2 xs.length cap2) ∧ Below w.heap.size w wr) (fun _ i _ => gs.length - (intOf i).toNat)
        case atStart => exact ⟨0, Nat.zero_le _, rfl, by simp [putG], HR.out, HB.out⟩
        case round =>
          obtain ⟨k, hk, rfl, rfl, hR, hb⟩ := hrel
          have HBe : Hid (Below w.heap.size w wr) := hb
          have HRe : Hid (DRow wr w.heap.size (.slice a gs.length cap) (.slice a' es.length cap') true (.slice a2 xs.length cap2)) := hR
          have m0 := hR.c0
          clear hb hR
          by_cases hlt : k < gs.length
          · obtain ⟨b, off, cap9, x, hv, hbl, hx, _, e0⟩ := (HG.out.below HBe.out).at hlt
            cases hv
            have hsx := HSG.out k x hx
            have hla := putG_length HSG.out k hk
            have hl1 : (mkT (headD true ++ putA xs ++ putG (gs.take k))).size ≤ 200000 := by rw [mk_size, List.length_append, List.length_append]; have := HHD.out; have := HLX.out; omega
            have HN : Hid (mkT (headD true ++ putA xs ++ putG (gs.take k)) ++ ⟨#[45]⟩ ++ x ++ ⟨#[10]⟩ = mkT (headD true ++ putA xs ++ putG (gs.take (k + 1)))) := text_of (by rw [bl_app, bl_app, bl_app, bl_mk, putG_take hx]; simp only [lineG, List.append_assoc]; rfl)
            clear hx hla
            generalize hg1 : mkT (headD true ++ putA xs ++ putG (gs.take k)) = t1 at *
            clear hg1
            go_wp2
            go_roundw
            case rel => exact ⟨k + 1, by omega, by go_num, by rw [← HN.out], HRe.out, HBe.out⟩
            case measure => simp [intOf]; omega
          · obtain rfl : k = gs.length := by omega
            rw [List.take_length]
            have HLY : Hid ((putG gs).length ≤ 1002 * gs.length) := by have := putG_length HSG.out gs.length (Nat.le_refl _); rwa [List.take_length] at this
            rename World => wp
            go_wp2
            go_loopw [3, 6] (fun o i wr => ∃ (k : Nat), k ≤ es.length ∧ i = .int .i64 k ∧ o = .string (mkT (headD true ++ putA xs ++ putG gs ++ putC (es.take k))) ∧ DRow wr w.heap.size (.slice a gs.length cap) (.slice a' es.length cap') true (.slice a2 xs.length cap2) ∧ Below w.heap.size w wr) (fun _ i _ => es.length - (intOf i).toNat)
            case atStart => exact ⟨0, Nat.zero_le _, rfl, by simp [putC], HRe.out, HBe.out⟩
            case round =>
              obtain ⟨k, hk, rfl, rfl, hR, hb⟩ := hrel
              have HBf : Hid (Below w.heap.size w wr) := hb
              have HRf : Hid (DRow wr w.heap.size (.slice a gs.length cap) (.slice a' es.length cap') true (.slice a2 xs.length cap2)) := hR
              have m1 := hR.c1
              clear hb hR
              by_cases hlt : k < es.length
              · obtain ⟨b, off, cap9, x, hv, hbl, hx, _, e0, e1⟩ := (HE.out.below HBf.out).at hlt
                cases hv
                have HSX := HSE.out k x hx
                have hla := putC_length HSE.out k hk
                have hl1 : (mkT (headD true ++ putA xs ++ putG gs ++ putC (es.take k))).size ≤ 300000 := by rw [mk_size, List.length_append, List.length_append, List.length_append]; have := HHD.out; have := HLX.out; have := HLY.out; omega
                have hlt2 : (mkT (entL x.1 x.2)).size ≤ 2001 := by rw [mk_size]; exact entL_length HSX.1 HSX.2
                have HN : Hid (mkT (headD true ++ putA xs ++ putG gs ++ putC (es.take k)) ++ ⟨#[43]⟩ ++ mkT (entL x.1 x.2) ++ ⟨#[10]⟩ = mkT (headD true ++ putA xs ++ putG gs ++ putC (es.take (k + 1)))) := text_of (by
                  rw [bl_app, bl_app, bl_app, bl_mk, bl_mk, putC_take hx]
                  unfold lineC
                  rw [← entL_line]
                  simp only [List.append_assoc]
                  rfl)
                obtain ⟨s, f⟩ := x
                simp only at e0 e1 HSX hlt2 HN
                have HS1 : Hid (s.size ≤ 1000) := HSX.1
                have HS2 : Hid (f.size ≤ 1000) := HSX.2
                clear hx hla HSX
                generalize hg1 : mkT (headD true ++ putA xs ++ putG gs ++ putC (es.take k)) = t1 at *
                clear hg1
                go_wp2_with fail
                refine (l2EntryPut_any s f _ HS1.out HS2.out).mono ?_
                rintro e w2 ⟨rfl, hb2⟩
                have HB2 : Hid (Below w.heap.size w w2) := HBf.out.trans (hb2.mono HBf.out.size)
                have HR2 : Hid (DRow w2 w.heap.size _ _ true _) := HRf.out.below hb2
                clear hb2 e0 e1 m1
                generalize hg2 : mkT (entL s f) = t2 at *
                clear hg2
                go_wp2
                go_roundw
                case rel => exact ⟨k + 1, by omega, by go_num, by rw [← HN.out], HR2.out, HB2.out⟩
                case measure => simp [intOf]; omega
              · obtain rfl : k = es.length := by omega
                rw [List.take_length]
                go_wp2
                go_ret
                exact ⟨rfl, HBf.out⟩
end Go.Proofs.YtcfpbjhfhdcjoaaGreatDoor
