/-
  spec.l5Put, spec.DeltaPut, and the law FnExactDeltaPut.
-/
import Derived.Test.YtaejkhhkippmpaaW117
import Derived.Test.YtaejkhhkippmpaaW84
import Derived.Test.YtaejkhhkippmpaaW116
namespace Go.Proofs.Ytaejkhhkippmpaa
open Go.RowKit
set_option linter.unusedVariables false
set_option maxRecDepth 100000 in
set_option maxHeartbeats 4000000 in
theorem l5Put_any (w : World) (vg vc vl : Value) (af : Bool) (gs : List ByteArray) (es : List (ByteArray × ByteArray)) (xs : List Aff) (hg : TextsAt w vg gs) (he : EntsAt w vc es) (ha : AffsAt w vl xs) (hok : deltaT gs es af xs = true) :
    Calls Try.prog 28 #[.agg #[vg, vc, .bool af, vl]] w fun e w' => e = .returned (.string (mkT (dputL gs es af xs))) ∧ Below w.heap.size w w' := by
  obtain ⟨a, cap, rfl, hc, hm⟩ := hg.form
  obtain ⟨a', cap', rfl, hc', hm'⟩ := he.form
  obtain ⟨a2, cap2, rfl, hc2, hm2⟩ := ha.form
  have HG : Hid (TextsAt w (.slice a gs.length cap) gs) := hg
  have HE : Hid (EntsAt w (.slice a' es.length cap') es) := he
  have HA : Hid (AffsAt w (.slice a2 xs.length cap2) xs) := ha
  unfold maxLen at hm hm' hm2
  obtain ⟨⟨hl8, hl24, hlg⟩, hsa, hse, hsg⟩ := delta_parts hok
  have HSA : Hid (∀ (i : Nat) (x : Aff), xs[i]? = some x → ShortA x) := hsa
  have HSE : Hid (∀ (i : Nat) (x : ByteArray × ByteArray), es[i]? = some x → x.1.size ≤ 1000 ∧ x.2.size ≤ 1000) := hse
  have HSG : Hid (∀ (i : Nat) (x : ByteArray), gs[i]? = some x → x.size ≤ 1000) := hsg
  have HHD : Hid ((headD af).length ≤ 8) := headD_length af
  clear hsa hse hsg hok hg he ha
  obtain ⟨W0, hW0⟩ : ∃ W0, w.alloc (.cells #[.slice a gs.length cap, .slice a' es.length cap', .bool af, .slice a2 xs.length cap2] 32) = W0 := ⟨_, rfl⟩
  have B0 : Hid (Below w.heap.size w W0) := by rw [← hW0]; exact (Below.refl _ _).alloc (Nat.le_refl _) _
  have R0 : Hid (DRow W0 w.heap.size (.slice a gs.length cap) (.slice a' es.length cap') af (.slice a2 xs.length cap2)) := by rw [← hW0]; exact DRow.new _ _ _ _ _
  have c2 := R0.out.c2
  go_enter Try.func28, Try.ntmps28
  cases af with
  | false =>
    go_wp2
    clear hW0 c2
    go_loopw [3, 4] (fun o i wr => ∃ (k : Nat), k ≤ xs.length ∧ i = .int .i64 k ∧ o = .string (mkT (headD false ++ putA (xs.take k))) ∧ DRow wr w.heap.size (.slice a gs.length cap) (.slice a' es.length cap') false (.slice a2 xs.length cap2) ∧ Below w.heap.size w wr) (fun _ i _ => xs.length - (intOf i).toNat)
    case atStart => exact ⟨0, Nat.zero_le _, rfl, rfl, R0.out, B0.out⟩
    case round =>
      obtain ⟨k, hk, rfl, rfl, hR, hb⟩ := hrel
      have HB : Hid (Below w.heap.size w wr) := hb
      have HR : Hid (DRow wr w.heap.size (.slice a gs.length cap) (.slice a' es.length cap') false (.slice a2 xs.length cap2)) := hR
      have m3 := hR.c3
      clear hb hR
      by_cases hlt : k < xs.length
      · obtain ⟨b, off, cap9, x, hv, hbl, hx, hxf, e0, e1, e2, e3, e4⟩ := (HA.out.below HB.out).at hlt
        cases hv
        have HSX : Hid (ShortA x) := HSA.out k x hx
        have hla := putA_length HSA.out k hk
        have hl1 : (mkT (headD false ++ putA (xs.take k))).size ≤ 100000 := by rw [mk_size, List.length_append]; have := HHD.out; omega
        have hll := lineA_length HSX.out
        have hll2 : (mkT (accJ (affP x) 4)).size ≤ 5005 := by rw [mk_size]; unfold lineA at hll; simp at hll; omega
        have HN : Hid (mkT (headD false ++ putA (xs.take k)) ++ mkT (accJ (affP x) 4) ++ ⟨#[10]⟩ = mkT (headD false ++ putA (xs.take (k + 1)))) := text_of (by rw [bl_app, bl_app, bl_mk, bl_mk, putA_take hx]; simp only [lineA, List.append_assoc]; rfl)
        obtain ⟨f, fr, st, ad, wh⟩ := x
        simp only at e0 e1 e2 e3 e4
        clear hx hxf hll hla
        go_wp2_with fail
        refine (l2AffixPut_any ⟨f, fr, st, ad, wh⟩ _ HSX.out).mono ?_
        rintro e w2 ⟨rfl, hb2⟩
        have HB2 : Hid (Below w.heap.size w w2) := HB.out.trans (hb2.mono HB.out.size)
        have HR2 : Hid (DRow w2 w.heap.size _ _ false _) := HR.out.below hb2
        clear hb2 e0 e1 e2 e3 e4 m3
        generalize hg1 : mkT (headD false ++ putA (xs.take k)) = t1 at *
        generalize hg2 : mkT (accJ (affP ⟨f, fr, st, ad, wh⟩) 4) = t2 at *
        clear hg1 hg2
        go_wp2
        go_roundw
        case rel => exact ⟨k + 1, by omega, by go_num, by rw [← HN.out], HR2.out, HB2.out⟩
        case measure => simp [intOf]; omega
      · obtain rfl : k = xs.length := by omega
        rw [List.take_length]
        have HLX : Hid ((putA xs).length ≤ 5006 * xs.length) := by have := putA_length HSA.out xs.length (Nat.le_refl _); rwa [List.take_length] at this
        rename World => wo
        go_wp2
        go_loopw [3, 5] (fun o i wr => ∃ (k : Nat), k ≤ gs.length ∧ i = .int .i64 k ∧ o = .string (mkT (headD false ++ putA xs ++ putG (gs.take k))) ∧ DRow wr w.heap.size (.slice a gs.length cap) (.slice a' es.length cap') false (.slice a2 xs.length cap2) ∧ Below w.heap.size w wr) (fun _ i _ => gs.length - (intOf i).toNat)
        case atStart => exact ⟨0, Nat.zero_le _, rfl, by simp [putG], HR.out, HB.out⟩
        case round =>
          obtain ⟨k, hk, rfl, rfl, hR, hb⟩ := hrel
          have HBe : Hid (Below w.heap.size w wr) := hb
          have HRe : Hid (DRow wr w.heap.size (.slice a gs.length cap) (.slice a' es.length cap') false (.slice a2 xs.length cap2)) := hR
          have m0 := hR.c0
          clear hb hR
          by_cases hlt : k < gs.length
          · obtain ⟨b, off, cap9, x, hv, hbl, hx, _, e0⟩ := (HG.out.below HBe.out).at hlt
            cases hv
            have hsx := HSG.out k x hx
            have hla := putG_length HSG.out k hk
            have hl1 : (mkT (headD false ++ putA xs ++ putG (gs.take k))).size ≤ 200000 := by rw [mk_size, List.length_append, List.length_append]; have := HHD.out; have := HLX.out; omega
            have HN : Hid (mkT (headD false ++ putA xs ++ putG (gs.take k)) ++ ⟨#[45]⟩ ++ x ++ ⟨#[10]⟩ = mkT (headD false ++ putA xs ++ putG (gs.take (k + 1)))) := text_of (by rw [bl_app, bl_app, bl_app, bl_mk, putG_take hx]; simp only [lineG, List.append_assoc]; rfl)
            clear hx hla
            generalize hg1 : mkT (headD false ++ putA xs ++ putG (gs.take k)) = t1 at *
            clear hg1
            go_wp2
            go_roundw
            case rel => exact ⟨k + 1, by omega, by go_num, by rw [← HN.out], HRe.out, HBe.out⟩
            case measure => simp [intOf]; omega
          · obtain rfl : k = gs.length := by omega
            rw [List.take_length]
            have HLY : Hid ((putG gs).length ≤ 1002 * gs.length) := by have := putG_length HSG.out gs.length (Nat.le_refl _); rwa [List.take_length] at this
            rename World => wp
            go_wp2
            go_loopw [3, 6] (fun o i wr => ∃ (k : Nat), k ≤ es.length ∧ i = .int .i64 k ∧ o = .string (mkT (headD false ++ putA xs ++ putG gs ++ putC (es.take k))) ∧ DRow wr w.heap.size (.slice a gs.length cap) (.slice a' es.length cap') false (.slice a2 xs.length cap2) ∧ Below w.heap.size w wr) (fun _ i _ => es.length - (intOf i).toNat)
            case atStart => exact ⟨0, Nat.zero_le _, rfl, by simp [putC], HRe.out, HBe.out⟩
            case round =>
              obtain ⟨k, hk, rfl, rfl, hR, hb⟩ := hrel
              have HBf : Hid (Below w.heap.size w wr) := hb
              have HRf : Hid (DRow wr w.heap.size (.slice a gs.length cap) (.slice a' es.length cap') false (.slice a2 xs.length cap2)) := hR
              have m1 := hR.c1
              clear hb hR
              by_cases hlt : k < es.length
              · obtain ⟨b, off, cap9, x, hv, hbl, hx, _, e0, e1⟩ := (HE.out.below HBf.out).at hlt
                cases hv
                have HSX := HSE.out k x hx
                have hla := putC_length HSE.out k hk
                have hl1 : (mkT (headD false ++ putA xs ++ putG gs ++ putC (es.take k))).size ≤ 300000 := by rw [mk_size, List.length_append, List.length_append, List.length_append]; have := HHD.out; have := HLX.out; have := HLY.out; omega
                have hlt2 : (mkT (entL x.1 x.2)).size ≤ 2001 := by rw [mk_size]; exact entL_length HSX.1 HSX.2
                have HN : Hid (mkT (headD false ++ putA xs ++ putG gs ++ putC (es.take k)) ++ ⟨#[43]⟩ ++ mkT (entL x.1 x.2) ++ ⟨#[10]⟩ = mkT (headD false ++ putA xs ++ putG gs ++ putC (es.take (k + 1)))) := text_of (by
                  rw [bl_app, bl_app, bl_app, bl_mk, bl_mk, putC_take hx]
                  unfold lineC
                  rw [← entL_line]
                  simp only [List.append_assoc]
                  rfl)
                obtain ⟨s, f⟩ := x
                simp only at e0 e1 HSX hlt2 HN
                have HS1 : Hid (s.size ≤ 1000) := HSX.1
                have HS2 : Hid (f.size ≤ 1000) := HSX.2
                clear hx hla HSX
                generalize hg1 : mkT (headD false ++ putA xs ++ putG gs ++ putC (es.take k)) = t1 at *
                clear hg1
                go_wp2_with fail
                refine (l2EntryPut_any s f _ HS1.out HS2.out).mono ?_
                rintro e w2 ⟨rfl, hb2⟩
                have HB2 : Hid (Below w.heap.size w w2) := HBf.out.trans (hb2.mono HBf.out.size)
                have HR2 : Hid (DRow w2 w.heap.size _ _ false _) := HRf.out.below hb2
                clear hb2 e0 e1 m1
                generalize hg2 : mkT (entL s f) = t2 at *
                clear hg2
                go_wp2
                go_roundw
                case rel => exact ⟨k + 1, by omega, by go_num, by rw [← HN.out], HR2.out, HB2.out⟩
                case measure => simp [intOf]; omega
              · obtain rfl : k = es.length := by omega
                rw [List.take_length]
                go_wp2
                go_ret
                exact ⟨rfl, HBf.out⟩
  | true =>
    go_wp2
    clear hW0 c2
    go_loopw [3, 4] (fun o i wr => ∃ (k : Nat), k ≤ xs.length ∧ i = .int .i64 k ∧ o = .string (mkT (headD true ++ putA (xs.take k))) ∧ DRow wr w.heap.size (.slice a gs.length cap) (.slice a' es.length cap') true (.slice a2 xs.length cap2) ∧ Below w.heap.size w wr) (fun _ i _ => xs.length - (intOf i).toNat)
    case atStart => exact ⟨0, Nat.zero_le _, rfl, rfl, R0.out, B0.out⟩
    case round =>
      obtain ⟨k, hk, rfl, rfl, hR, hb⟩ := hrel
      have HB : Hid (Below w.heap.size w wr) := hb
      have HR : Hid (DRow wr w.heap.size (.slice a gs.length cap) (.slice a' es.length cap') true (.slice a2 xs.length cap2)) := hR
      have m3 := hR.c3
      clear hb hR
      by_cases hlt : k < xs.length
      · obtain ⟨b, off, cap9, x, hv, hbl, hx, hxf, e0, e1, e2, e3, e4⟩ := (HA.out.below HB.out).at hlt
        cases hv
        have HSX : Hid (ShortA x) := HSA.out k x hx
        have hla := putA_length HSA.out k hk
        have hl1 : (mkT (headD true ++ putA (xs.take k))).size ≤ 100000 := by rw [mk_size, List.length_append]; have := HHD.out; omega
        have hll := lineA_length HSX.out
        have hll2 : (mkT (accJ (affP x) 4)).size ≤ 5005 := by rw [mk_size]; unfold lineA at hll; simp at hll; omega
        have HN : Hid (mkT (headD true ++ putA (xs.take k)) ++ mkT (accJ (affP x) 4) ++ ⟨#[10]⟩ = mkT (headD true ++ putA (xs.take (k + 1)))) := text_of (by rw [bl_app, bl_app, bl_mk, bl_mk, putA_take hx]; simp only [lineA, List.append_assoc]; rfl)
        obtain ⟨f, fr, st, ad, wh⟩ := x
        simp only at e0 e1 e2 e3 e4
        clear hx hxf hll hla
        go_wp2_with fail
        refine (l2AffixPut_any ⟨f, fr, st, ad, wh⟩ _ HSX.out).mono ?_
        rintro e w2 ⟨rfl, hb2⟩
        have HB2 : Hid (Below w.heap.size w w2) := HB.out.trans (hb2.mono HB.out.size)
        have HR2 : Hid (DRow w2 w.heap.size _ _ true _) := HR.out.below hb2
        clear hb2 e0 e1 e2 e3 e4 m3
        generalize hg1 : mkT (headD true ++ putA (xs.take k)) = t1 at *
        generalize hg2 : mkT (accJ (affP ⟨f, fr, st, ad, wh⟩) 4) = t2 at *
        clear hg1 hg2
        go_wp2
        go_roundw
        case rel => exact ⟨k + 1, by omega, by go_num, by rw [← HN.out], HR2.out, HB2.out⟩
        case measure => simp [intOf]; omega
      · obtain rfl : k = xs.length := by omega
        rw [List.take_length]
        have HLX : Hid ((putA xs).length ≤ 5006 * xs.length) := by have := putA_length HSA.out xs.length (Nat.le_refl _); rwa [List.take_length] at this
        rename World => wo
        go_wp2
        go_loopw [3, 5] (fun o i wr => ∃ (k : Nat), k ≤ gs.length ∧ i = .int .i64 k ∧ o = .string (mkT (headD true ++ putA xs ++ putG (gs.take k))) ∧ DRow wr w.heap.size (.slice a gs.length cap) (.slice a' es.length cap') true (.slice a2 xs.length cap2) ∧ Below w.heap.size w wr) (fun _ i _ => gs.length - (intOf i).toNat)
        case atStart => exact ⟨0, Nat.zero_le _, rfl, by simp [putG], HR.out, HB.out⟩
        case round =>
          obtain ⟨k, hk, rfl, rfl, hR, hb⟩ := hrel
          have HBe : Hid (Below w.heap.size w wr) := hb
          have HRe : Hid (DRow wr w.heap.size (.slice a gs.length cap) (.slice a' es.length cap') true (.slice a2 xs.length cap2)) := hR
          have m0 := hR.c0
          clear hb hR
          by_cases hlt : k < gs.length
          · obtain ⟨b, off, cap9, x, hv, hbl, hx, _, e0⟩ := (HG.out.below HBe.out).at hlt
            cases hv
            have hsx := HSG.out k x hx
            have hla := putG_length HSG.out k hk
            have hl1 : (mkT (headD true ++ putA xs ++ putG (gs.take k))).size ≤ 200000 := by rw [mk_size, List.length_append, List.length_append]; have := HHD.out; have := HLX.out; omega
            have HN : Hid (mkT (headD true ++ putA xs ++ putG (gs.take k)) ++ ⟨#[45]⟩ ++ x ++ ⟨#[10]⟩ = mkT (headD true ++ putA xs ++ putG (gs.take (k + 1)))) := text_of (by rw [bl_app, bl_app, bl_app, bl_mk, putG_take hx]; simp only [lineG, List.append_assoc]; rfl)
            clear hx hla
            generalize hg1 : mkT (headD true ++ putA xs ++ putG (gs.take k)) = t1 at *
            clear hg1
            go_wp2
            go_roundw
            case rel => exact ⟨k + 1, by omega, by go_num, by rw [← HN.out], HRe.out, HBe.out⟩
            case measure => simp [intOf]; omega
          · obtain rfl : k = gs.length := by omega
            rw [List.take_length]
            have HLY : Hid ((putG gs).length ≤ 1002 * gs.length) := by have := putG_length HSG.out gs.length (Nat.le_refl _); rwa [List.take_length] at this
            rename World => wp
            go_wp2
            go_loopw [3, 6] (fun o i wr => ∃ (k : Nat), k ≤ es.length ∧ i = .int .i64 k ∧ o = .string (mkT (headD true ++ putA xs ++ putG gs ++ putC (es.take k))) ∧ DRow wr w.heap.size (.slice a gs.length cap) (.slice a' es.length cap') true (.slice a2 xs.length cap2) ∧ Below w.heap.size w wr) (fun _ i _ => es.length - (intOf i).toNat)
            case atStart => exact ⟨0, Nat.zero_le _, rfl, by simp [putC], HRe.out, HBe.out⟩
            case round =>
              obtain ⟨k, hk, rfl, rfl, hR, hb⟩ := hrel
              have HBf : Hid (Below w.heap.size w wr) := hb
              have HRf : Hid (DRow wr w.heap.size (.slice a gs.length cap) (.slice a' es.length cap') true (.slice a2 xs.length cap2)) := hR
              have m1 := hR.c1
              clear hb hR
              by_cases hlt : k < es.length
              · obtain ⟨b, off, cap9, x, hv, hbl, hx, _, e0, e1⟩ := (HE.out.below HBf.out).at hlt
                cases hv
                have HSX := HSE.out k x hx
                have hla := putC_length HSE.out k hk
                have hl1 : (mkT (headD true ++ putA xs ++ putG gs ++ putC (es.take k))).size ≤ 300000 := by rw [mk_size, List.length_append, List.length_append, List.length_append]; have := HHD.out; have := HLX.out; have := HLY.out; omega
                have hlt2 : (mkT (entL x.1 x.2)).size ≤ 2001 := by rw [mk_size]; exact entL_length HSX.1 HSX.2
                have HN : Hid (mkT (headD true ++ putA xs ++ putG gs ++ putC (es.take k)) ++ ⟨#[43]⟩ ++ mkT (entL x.1 x.2) ++ ⟨#[10]⟩ = mkT (headD true ++ putA xs ++ putG gs ++ putC (es.take (k + 1)))) := text_of (by
                  rw [bl_app, bl_app, bl_app, bl_mk, bl_mk, putC_take hx]
                  unfold lineC
                  rw [← entL_line]
                  simp only [List.append_assoc]
                  rfl)
                obtain ⟨s, f⟩ := x
                simp only at e0 e1 HSX hlt2 HN
                have HS1 : Hid (s.size ≤ 1000) := HSX.1
                have HS2 : Hid (f.size ≤ 1000) := HSX.2
                clear hx hla HSX
                generalize hg1 : mkT (headD true ++ putA xs ++ putG gs ++ putC (es.take k)) = t1 at *
                clear hg1
                go_wp2_with fail
                refine (l2EntryPut_any s f _ HS1.out HS2.out).mono ?_
                rintro e w2 ⟨rfl, hb2⟩
                have HB2 : Hid (Below w.heap.size w w2) := HBf.out.trans (hb2.mono HBf.out.size)
                have HR2 : Hid (DRow w2 w.heap.size _ _ true _) := HRf.out.below hb2
                clear hb2 e0 e1 m1
                generalize hg2 : mkT (entL s f) = t2 at *
                clear hg2
                go_wp2
                go_roundw
                case rel => exact ⟨k + 1, by omega, by go_num, by rw [← HN.out], HR2.out, HB2.out⟩
                case measure => simp [intOf]; omega
              · obtain rfl : k = es.length := by omega
                rw [List.take_length]
                go_wp2
                go_ret
                exact ⟨rfl, HBf.out⟩
set_option maxHeartbeats 2000000 in
theorem specDeltaPut_any (w : World) (vg vc vl : Value) (af : Bool) (gs : List ByteArray) (es : List (ByteArray × ByteArray)) (xs : List Aff) (hg : TextsAt w vg gs) (he : EntsAt w vc es) (ha : AffsAt w vl xs) :
    Calls Try.prog 10 #[.agg #[vg, vc, .bool af, vl]] w fun e w' => e = .returned (.string (dputT gs es af xs)) ∧ Below w.heap.size w w' := by
  obtain ⟨a, cap, rfl, hc, hm⟩ := hg.form
  obtain ⟨a', cap', rfl, hc', hm'⟩ := he.form
  obtain ⟨a2, cap2, rfl, hc2, hm2⟩ := ha.form
  have HD : Hid (DAt w (.slice a gs.length cap) (.slice a' es.length cap') (.slice a2 xs.length cap2) gs es xs) := ⟨hg, he, ha⟩
  clear hg he ha
  obtain ⟨W0, hW0⟩ : ∃ W0, w.alloc (.cells #[.slice a gs.length cap, .slice a' es.length cap', .bool af, .slice a2 xs.length cap2] 32) = W0 := ⟨_, rfl⟩
  have B0 : Hid (Below w.heap.size w W0) := by rw [← hW0]; exact (Below.refl _ _).alloc (Nat.le_refl _) _
  have R0 : Hid (DRow W0 w.heap.size (.slice a gs.length cap) (.slice a' es.length cap') af (.slice a2 xs.length cap2)) := by rw [← hW0]; exact DRow.new _ _ _ _ _
  have D0 : Hid (DAt W0 (.slice a gs.length cap) (.slice a' es.length cap') (.slice a2 xs.length cap2) gs es xs) := HD.out.below B0.out
  obtain ⟨c0, c1, c2, c3⟩ := R0.out.cs
  go_enter Try.func10, Try.ntmps10
  go_wp2_with fail
  clear hW0
  refine (specDeltaOk_any _ _ _ _ af gs es xs D0.out.1 D0.out.2.1 D0.out.2.2).mono ?_
  rintro e w1 ⟨rfl, hb1⟩
  have B1 : Hid (Below w.heap.size w w1) := B0.out.trans (hb1.mono B0.out.size)
  have D1 : Hid (DAt w1 (.slice a gs.length cap) (.slice a' es.length cap') (.slice a2 xs.length cap2) gs es xs) := D0.out.below hb1
  have R1 : Hid (DRow w1 w.heap.size (.slice a gs.length cap) (.slice a' es.length cap') af (.slice a2 xs.length cap2)) := R0.out.below hb1
  clear hb1 c0 c1 c2 c3
  cases hok : deltaT gs es af xs with
  | false =>
    have HC : Hid (dputT gs es af xs = ⟨#[]⟩) := by show _ = _; simp [dputT, hok]
    go_wp2
    go_ret
    rw [HC.out]
    exact ⟨rfl, B1.out⟩
  | true =>
    have HC : Hid (dputT gs es af xs = mkT (dputL gs es af xs)) := by show _ = _; simp [dputT, hok]
    obtain ⟨c0, c1, c2, c3⟩ := R1.out.cs
    go_wp2_with fail
    refine (l5Put_any _ _ _ _ af gs es xs D1.out.1 D1.out.2.1 D1.out.2.2 hok).mono ?_
    rintro e w2 ⟨rfl, hb2⟩
    have B2 : Hid (Below w.heap.size w w2) := B1.out.trans (hb2.mono B1.out.size)
    clear hb2
    go_wp2
    go_ret
    rw [HC.out]
    exact ⟨rfl, B2.out⟩
set_option maxHeartbeats 2000000 in
theorem fnExactDeltaPut_walk (vg vc : Value) (af : Bool) (vl : Value) (gs : List ByteArray) (es : List (ByteArray × ByteArray)) (xs : List Aff) (w : World) (hg : TextsAt w vg gs) (he : EntsAt w vc es) (ha : AffsAt w vl xs) :
    Calls Try.prog 4 #[.agg #[vg, vc, .bool af, vl]] w fun e w' => e = .returned (.bool true) ∧ Below w.heap.size w w' := by
  have HD : Hid (DAt w vg vc vl gs es xs) := ⟨hg, he, ha⟩
  obtain ⟨a, cap, rfl, _, _⟩ := hg.form
  obtain ⟨a', cap', rfl, _, _⟩ := he.form
  obtain ⟨a2, cap2, rfl, _, _⟩ := ha.form
  clear hg he ha
  obtain ⟨W0, hW0⟩ : ∃ W0, w.alloc (.cells #[.slice a gs.length cap, .slice a' es.length cap', .bool af, .slice a2 xs.length cap2] 26) = W0 := ⟨_, rfl⟩
  have B0 : Hid (Below w.heap.size w W0) := by rw [← hW0]; exact (Below.refl _ _).alloc (Nat.le_refl _) _
  have L0 : Hid (LRow W0 w.heap.size (.slice a gs.length cap) (.slice a' es.length cap') af (.slice a2 xs.length cap2)) := by rw [← hW0]; exact LRow.new _ _ _ _ _
  have D0 : Hid (DAt W0 (.slice a gs.length cap) (.slice a' es.length cap') (.slice a2 xs.length cap2) gs es xs) := HD.out.below B0.out
  obtain ⟨c0, c1, c2, c3⟩ := L0.out.cs
  go_enter Try.func4, Try.ntmps4
  go_wp2_with fail
  clear hW0
  refine (szDelta_any _ _ _ _ af gs es xs _ D0.out.1 D0.out.2.1 D0.out.2.2 (by omega) (by omega)).mono ?_
  rintro e w1 ⟨⟨r, rfl, hr⟩, hb1⟩
  have B1 : Hid (Below w.heap.size w w1) := B0.out.trans (hb1.mono B0.out.size)
  have L1 : Hid (LRow w1 w.heap.size (.slice a gs.length cap) (.slice a' es.length cap') af (.slice a2 xs.length cap2)) := L0.out.below hb1
  have D1 : Hid (DAt w1 (.slice a gs.length cap) (.slice a' es.length cap') (.slice a2 xs.length cap2) gs es xs) := D0.out.below hb1
  have HR : Hid (0 ≤ r → gs.length ≤ 1048576 ∧ es.length ≤ 1048576 ∧ xs.length ≤ 1048576) := hr
  clear hb1 hr c0 c1 c2 c3
  by_cases hr : r < 0
  · go_wp2
    go_ret
    exact ⟨rfl, B1.out⟩
  · obtain ⟨n1, n2, n3⟩ := HR.out (by omega)
    obtain ⟨c0, c1, c2, c3⟩ := L1.out.cs
    go_wp2_with fail
    refine (toDelta_any _ _ _ _ af gs es xs D1.out.1 D1.out.2.1 D1.out.2.2 n1 n2 n3).mono ?_
    rintro e w2 ⟨ug, uc, ul, rfl, t2, e2, a22, hb2⟩
    have B2 : Hid (Below w.heap.size w w2) := B1.out.trans (hb2.mono B1.out.size)
    have L2 : Hid (LRow w2 w.heap.size (.slice a gs.length cap) (.slice a' es.length cap') af (.slice a2 xs.length cap2)) := L1.out.below hb2
    have D2 : Hid (DAt w2 (.slice a gs.length cap) (.slice a' es.length cap') (.slice a2 xs.length cap2) gs es xs) := D1.out.below hb2
    have E2 : Hid (DAt w2 ug uc ul gs es xs) := ⟨t2, e2, a22⟩
    clear hb2 t2 e2 a22 c0 c1 c2 c3
    go_wp2_with fail
    refine (specDeltaPut_any _ _ _ _ af gs es xs E2.out.1 E2.out.2.1 E2.out.2.2).mono ?_
    rintro e w3 ⟨rfl, hb3⟩
    have B3 : Hid (Below w.heap.size w w3) := B2.out.trans (hb3.mono B2.out.size)
    have L3 : Hid (LRow w3 w.heap.size (.slice a gs.length cap) (.slice a' es.length cap') af (.slice a2 xs.length cap2)) := L2.out.below hb3
    have D3 : Hid (DAt w3 (.slice a gs.length cap) (.slice a' es.length cap') (.slice a2 xs.length cap2) gs es xs) := D2.out.below hb3
    clear hb3
    obtain ⟨c0, c1, c2, c3⟩ := L3.out.cs
    go_wp2_with fail
    refine (toDelta_any _ _ _ _ af gs es xs D3.out.1 D3.out.2.1 D3.out.2.2 n1 n2 n3).mono ?_
    rintro e w4 ⟨vg4, vc4, vl4, rfl, t4, e4, a4, hb4⟩
    obtain ⟨p4, q4, rfl, _, _⟩ := t4.form
    obtain ⟨p4', q4', rfl, _, _⟩ := e4.form
    obtain ⟨p4x, q4x, rfl, _, _⟩ := a4.form
    have B4 : Hid (Below w.heap.size w w4) := B3.out.trans (hb4.mono B3.out.size)
    obtain ⟨W5, hW5⟩ : ∃ W5, w4.alloc (.cells #[.slice p4 gs.length q4, .slice p4' es.length q4', .bool af, .slice p4x xs.length q4x] 32) = W5 := ⟨_, rfl⟩
    have b45 : Below w4.heap.size w4 W5 := by rw [← hW5]; exact (Below.refl _ _).alloc (Nat.le_refl _) _
    have B5 : Hid (Below w.heap.size w W5) := B4.out.trans (b45.mono B4.out.size)
    have L5 : Hid (LRow W5 w.heap.size (.slice a gs.length cap) (.slice a' es.length cap') af (.slice a2 xs.length cap2)) := (L3.out.below hb4).below b45
    have D5 : Hid (DAt W5 (.slice a gs.length cap) (.slice a' es.length cap') (.slice a2 xs.length cap2) gs es xs) := (D3.out.below hb4).below b45
    have E5 : Hid (DAt W5 (.slice p4 gs.length q4) (.slice p4' es.length q4') (.slice p4x xs.length q4x) gs es xs) := DAt.below ⟨t4, e4, a4⟩ b45
    have X5 : Hid (DRow W5 w4.heap.size (.slice p4 gs.length q4) (.slice p4' es.length q4') af (.slice p4x xs.length q4x)) := by rw [← hW5]; exact DRow.new _ _ _ _ _
    obtain ⟨x0, x1, x2, x3⟩ := X5.out.cs
    clear hb4 t4 e4 a4 b45 c0 c1 c2 c3
    go_wp2_with fail
    clear hW5
    refine (implDeltaPut_any _ _ _ _ af gs es xs E5.out.1 E5.out.2.1 E5.out.2.2).mono ?_
    rintro e w6 ⟨rfl, hb6⟩
    have B6 : Hid (Below w.heap.size w w6) := B5.out.trans (hb6.mono B5.out.size)
    have L6 : Hid (LRow w6 w.heap.size (.slice a gs.length cap) (.slice a' es.length cap') af (.slice a2 xs.length cap2)) := L5.out.below hb6
    have D6 : Hid (DAt w6 (.slice a gs.length cap) (.slice a' es.length cap') (.slice a2 xs.length cap2) gs es xs) := D5.out.below hb6
    have E6 : Hid (DAt w6 (.slice p4 gs.length q4) (.slice p4' es.length q4') (.slice p4x xs.length q4x) gs es xs) := E5.out.below hb6
    have X6 : Hid (DRow w6 w4.heap.size (.slice p4 gs.length q4) (.slice p4' es.length q4') af (.slice p4x xs.length q4x)) := X5.out.below hb6
    clear hb6 x0 x1 x2 x3
    obtain ⟨c0, c1, c2, c3⟩ := L6.out.cs
    obtain ⟨x0, x1, x2, x3⟩ := X6.out.cs
    go_wp2_with fail
    go_region_with (first
      | (go_at_call 7; refine (toDelta_any _ _ _ _ af gs es xs (D6.out.below (Below.refl _ _).drew).1 (D6.out.below (Below.refl _ _).drew).2.1 (D6.out.below (Below.refl _ _).drew).2.2 n1 n2 n3).mono ?_; rintro e w7 ⟨vg7, vc7, vl7, rfl, t7, e7, a7, hb7⟩; have hb67 : Below w6.heap.size w6 w7 := (Below.refl _ _).drew.trans hb7; have B7 : Hid (Below w.heap.size w w7) := B6.out.trans (hb67.mono B6.out.size); have E7 : Hid (DAt w7 vg7 vc7 vl7 gs es xs) := ⟨t7, e7, a7⟩; have G7 : Hid (DAt w7 (.slice p4 gs.length q4) (.slice p4' es.length q4') (.slice p4x xs.length q4x) gs es xs) := E6.out.below hb67; obtain ⟨y0, y1, y2, y3⟩ := (X6.out.below hb67).cs; clear hb7 hb67 t7 e7 a7)
      | (go_at_call 9; refine (eqDelta_same _ _ _ _ _ _ _ af gs es xs G7.out.1 G7.out.2.1 G7.out.2.2 E7.out.1 E7.out.2.1 E7.out.2.2).mono ?_; rintro e w8 ⟨rfl, hb8⟩; have B8 : Hid (Below w.heap.size w w8) := B7.out.trans (hb8.mono B7.out.size); clear hb8))
    all_goals
      go_wp2_with fail
      go_ret
      exact ⟨rfl, B8.out⟩
end Go.Proofs.Ytaejkhhkippmpaa
