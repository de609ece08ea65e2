/-
  impl.DeltaOf.
-/
import Derived.Test.YtbbepdmogkadeaaW146
namespace Go.Proofs.Ytbbepdmogkadeaa
open Go.RowKit
set_option linter.unusedVariables false
theorem bookT_parts {xs : List Aff} {es : List (ByteArray × ByteArray)} (h : bookT xs es = true) : affsT xs = true ∧ entsT es = true := by
  simpa [bookT] using h
theorem affsT_len {xs : List Aff} (h : affsT xs = true) : xs.length ≤ 8 := by
  simp only [affsT, Bool.and_eq_true, decide_eq_true_eq] at h
  exact h.1
theorem nil_own (lo : Nat) (w : World) (hi : Nat) (af : Bool) : DeltaOwn lo hi w (.agg #[.slice none 0 0, .slice none 0 0, .bool af, .slice none 0 0]) ([], [], af, []) :=
  ⟨_, _, _, rfl, ⟨⟨none, 0, rfl, Nat.le_refl _, Nat.zero_le _, fun hn => absurd rfl hn⟩, fun i x hx => by simp at hx⟩, ⟨⟨none, 0, rfl, Nat.le_refl _, Nat.zero_le _, fun hn => absurd rfl hn⟩, fun i x hx => by simp at hx⟩, ⟨⟨none, 0, rfl, Nat.le_refl _, Nat.zero_le _, fun hn => absurd rfl hn⟩, fun i x hx => by simp at hx⟩⟩
set_option maxRecDepth 100000 in
set_option maxHeartbeats 4000000 in
theorem implDeltaOf_any (w : World) (va ve ua ue : Value) (xa : List Aff) (ea : List (ByteArray × ByteArray)) (xb : List Aff) (eb : List (ByteArray × ByteArray)) (ha : AffsAt w va xa) (he : EntsAt w ve ea) (ha' : AffsAt w ua xb) (he' : EntsAt w ue eb) :
    Calls Try.prog 7 #[.agg #[va, ve], .agg #[ua, ue]] w fun e w' => ∃ v, e = .returned v ∧ DeltaOwn w.heap.size w'.heap.size w' v (dofT xa ea xb eb) ∧ Below w.heap.size w w' := by
  obtain ⟨a0, cap0, rfl, hc0, hm0⟩ := ha.form
  obtain ⟨a1, cap1, rfl, hc1, hm1⟩ := he.form
  obtain ⟨a2, cap2, rfl, hc2, hm2⟩ := ha'.form
  obtain ⟨a3, cap3, rfl, hc3, hm3⟩ := he'.form
  have HA : Hid (AffsAt w (.slice a0 xa.length cap0) xa) := ha
  have HE : Hid (EntsAt w (.slice a1 ea.length cap1) ea) := he
  have HA' : Hid (AffsAt w (.slice a2 xb.length cap2) xb) := ha'
  have HE' : Hid (EntsAt w (.slice a3 eb.length cap3) eb) := he'
  clear ha he ha' he'
  unfold maxLen at hm0 hm1 hm2 hm3
  obtain ⟨i3, hi3, hz3, hs3, hb3⟩ := info_parts Try.info_str146
  obtain ⟨i4, hi4, hz4', hs4, hb4'⟩ := info_parts Try.info_ent146
  have HX : Hid (Below w.heap.size w (((w.alloc (.cells #[.slice a0 xa.length cap0, .slice a1 ea.length cap1] 34)).alloc (.cells #[.slice a2 xb.length cap2, .slice a3 eb.length cap3] 34)).alloc (.cells #[.slice none 0 0, .slice none 0 0, .bool false, .slice none 0 0] 31))) := (((Below.refl _ _).alloc (Nat.le_refl _) _).alloc (by simp) _).alloc (by simp <;> omega) _
  go_enter Try.func7, Try.ntmps7
  go_wp2_with fail
  refine (implBookOk_any _ _ _ xa ea (HA.out.below HX.out) (HE.out.below HX.out)).mono ?_
  rintro e w1 ⟨rfl, hb1⟩
  have HB1 : Hid (Below w.heap.size w w1) := HX.out.trans (hb1.mono (by simp <;> omega))
  have c1_0 : w1.cell? ⟨w.heap.size, 0, none⟩ = some (.slice a0 xa.length cap0) := (hb1.cell (p := ⟨w.heap.size, 0, none⟩) (by simp <;> omega)).trans (by simp [go_sem])
  have c1_1 : w1.cell? ⟨w.heap.size, 1, none⟩ = some (.slice a1 ea.length cap1) := (hb1.cell (p := ⟨w.heap.size, 1, none⟩) (by simp <;> omega)).trans (by simp [go_sem])
  have c1_2 : w1.cell? ⟨w.heap.size + 1, 0, none⟩ = some (.slice a2 xb.length cap2) := (hb1.cell (p := ⟨w.heap.size + 1, 0, none⟩) (by simp <;> omega)).trans (by simp [go_sem])
  have c1_3 : w1.cell? ⟨w.heap.size + 1, 1, none⟩ = some (.slice a3 eb.length cap3) := (hb1.cell (p := ⟨w.heap.size + 1, 1, none⟩) (by simp <;> omega)).trans (by simp [go_sem])
  have HR1 : Hid (DRow w1 (w.heap.size + 1 + 1) (.slice none 0 0) (.slice none 0 0) false (.slice none 0 0)) := by
    have h := DRow.new ((w.alloc (.cells #[.slice a0 xa.length cap0, .slice a1 ea.length cap1] 34)).alloc (.cells #[.slice a2 xb.length cap2, .slice a3 eb.length cap3] 34)) (.slice none 0 0) (.slice none 0 0) false (.slice none 0 0)
    simp only [World.size_alloc] at h
    exact h.below hb1
  have hz1 : w.heap.size + 1 + 1 < w1.heap.size := by have := hb1.size; simp at this; omega
  clear hb1
  cases hba : bookT xa ea with
  | false =>
    have HD : Hid (dofT xa ea xb eb = ([], [], false, [])) := if_neg (by simp [hba])
    have r0 := HR1.out.c0
    have r1 := HR1.out.c1
    have r2 := HR1.out.c2
    have r3 := HR1.out.c3
    have f0 := HR1.out.fz 0
    have f1 := HR1.out.fz 1
    have f2 := HR1.out.fz 2
    have f3 := HR1.out.fz 3
    go_wp2
    have HF := (((HR1.out.set0 (.slice none 0 0)).set1 (.slice none 0 0)).set2 false).set3 (.slice none 0 0)
    have q0 := HF.c0
    have q1 := HF.c1
    have q2 := HF.c2
    have q3 := HF.c3
    refine bodyPost_ret (v := .agg #[.slice none 0 0, .slice none 0 0, .bool false, .slice none 0 0]) (by simp [results, Try.results7, go_sem, q0, q1, q2, q3]) rfl ⟨_, rfl, ?_, ?_⟩
    · rw [HD.out]
      exact nil_own _ _ _ _
    · exact (((HB1.out.setCell (by simp <;> omega) _).setCell (by simp <;> omega) _).setCell (by simp <;> omega) _).setCell (by simp <;> omega) _
  | true =>
    go_wp2_with fail
    refine (implBookOk_any _ _ _ xb eb (HA'.out.below HB1.out) (HE'.out.below HB1.out)).mono ?_
    rintro e w2 ⟨rfl, hb2⟩
    have HB2 : Hid (Below w.heap.size w w2) := HB1.out.trans (hb2.mono HB1.out.size)
    have c2_0 := (hb2.cell (p := ⟨w.heap.size, 0, none⟩) (by simp <;> omega)).trans c1_0
    have c2_1 := (hb2.cell (p := ⟨w.heap.size, 1, none⟩) (by simp <;> omega)).trans c1_1
    have c2_2 := (hb2.cell (p := ⟨w.heap.size + 1, 0, none⟩) (by simp <;> omega)).trans c1_2
    have c2_3 := (hb2.cell (p := ⟨w.heap.size + 1, 1, none⟩) (by simp <;> omega)).trans c1_3
    have HR2 : Hid (DRow w2 (w.heap.size + 1 + 1) (.slice none 0 0) (.slice none 0 0) false (.slice none 0 0)) := HR1.out.below hb2
    have hz2 : w.heap.size + 1 + 1 < w2.heap.size := by have := hb2.size; omega
    clear hb2 c1_0 c1_1 c1_2 c1_3 HR1 hz1
    cases hbb : bookT xb eb with
    | false =>
      have HD : Hid (dofT xa ea xb eb = ([], [], false, [])) := if_neg (by simp [hbb])
      have r0 := HR2.out.c0
      have r1 := HR2.out.c1
      have r2 := HR2.out.c2
      have r3 := HR2.out.c3
      have f0 := HR2.out.fz 0
      have f1 := HR2.out.fz 1
      have f2 := HR2.out.fz 2
      have f3 := HR2.out.fz 3
      go_wp2
      have HF := (((HR2.out.set0 (.slice none 0 0)).set1 (.slice none 0 0)).set2 false).set3 (.slice none 0 0)
      have q0 := HF.c0
      have q1 := HF.c1
      have q2 := HF.c2
      have q3 := HF.c3
      refine bodyPost_ret (v := .agg #[.slice none 0 0, .slice none 0 0, .bool false, .slice none 0 0]) (by simp [results, Try.results7, go_sem, q0, q1, q2, q3]) rfl ⟨_, rfl, ?_, ?_⟩
      · rw [HD.out]
        exact nil_own _ _ _ _
      · exact (((HB2.out.setCell (by simp <;> omega) _).setCell (by simp <;> omega) _).setCell (by simp <;> omega) _).setCell (by simp <;> omega) _
    | true =>
      have HD : Hid (dofT xa ea xb eb = (goesOf ea eb, comesOf ea eb, !affsEq xa xb, if affsEq xa xb then [] else xb)) := if_pos (by simp [hba, hbb])
      obtain ⟨haa, hea⟩ := bookT_parts hba
      obtain ⟨hab, heb⟩ := bookT_parts hbb
      obtain ⟨hAa, hla⟩ := entsT_asc hea
      obtain ⟨hAb, hlb⟩ := entsT_asc heb
      have HAA : Hid (AscE ea) := hAa
      have HAB : Hid (AscE eb) := hAb
      have hxb := affsT_len hab
      have C0 : Hid (w2.cell? ⟨w.heap.size, 0, none⟩ = some (.slice a0 xa.length cap0)) := c2_0
      have C1 : Hid (w2.cell? ⟨w.heap.size, 1, none⟩ = some (.slice a1 ea.length cap1)) := c2_1
      have C2 : Hid (w2.cell? ⟨w.heap.size + 1, 0, none⟩ = some (.slice a2 xb.length cap2)) := c2_2
      have C3 : Hid (w2.cell? ⟨w.heap.size + 1, 1, none⟩ = some (.slice a3 eb.length cap3)) := c2_3
      have HEA : Hid (EntsAt w2 (.slice a1 ea.length cap1) ea) := HE.out.below HB2.out
      have HEB : Hid (EntsAt w2 (.slice a3 eb.length cap3) eb) := HE'.out.below HB2.out
      have HAA2 : Hid (AffsAt w2 (.slice a0 xa.length cap0) xa) := HA.out.below HB2.out
      have HAB2 : Hid (AffsAt w2 (.slice a2 xb.length cap2) xb) := HA'.out.below HB2.out
      clear haa hea hab heb hAa hAb HA HE HA' HE' HX
      have hz2a : w.heap.size < w2.heap.size := by omega
      have hz2b : w.heap.size + 1 < w2.heap.size := by omega
      go_wp2
      go_loopw [24] (fun i wr => ∃ (k : Nat) (v0 : Value), k ≤ ea.length ∧ i = .int .i64 k ∧ DRow wr w2.heap.size v0 (.slice none 0 0) false (.slice none 0 0) ∧ wr.ownsRow (w2.heap.size + 1) 9 1 v0 (goesOf (ea.take k) eb).length (texts (goesOf (ea.take k) eb)) ∧ Below w2.heap.size w2 wr ∧ w2.heap.size + 1 ≤ wr.heap.size) (fun i _ => ea.length - (intOf i).toNat)
      case atStart => exact ⟨0, _, Nat.zero_le _, rfl, DRow.new _ _ _ _ _, World.ownsRow_nil _ _ _ _, (Below.refl _ _).alloc (Nat.le_refl _) _, by simp⟩
      case round =>
        clear c2_0 c2_1 c2_2 c2_3
        obtain ⟨k, v0, hk, rfl, hd, ho, hb, hsz⟩ := hrel
        have HDR : Hid (DRow wr w2.heap.size v0 (.slice none 0 0) false (.slice none 0 0)) := hd
        have HO : Hid (wr.ownsRow (w2.heap.size + 1) 9 1 v0 (goesOf (ea.take k) eb).length (texts (goesOf (ea.take k) eb))) := ho
        have HB : Hid (Below w2.heap.size w2 wr) := hb
        obtain ⟨b0, cq0, rfl⟩ := owns_form ho
        clear hd ho hb
        by_cases hlt : k < ea.length
        · obtain ⟨b, off, cap', x, hv, hbl, hx, hxf, e0, e1⟩ := (HEA.out.below HB.out).at hlt
          cases hv
          have HG := goes_take (eb := eb) hx
          have HG2 : Hid (goesOf (ea.take (k + 1)) eb = goesOf (ea.take k) eb ++ if goesF eb x then [x.1] else []) := HG
          have hgl := goes_len ea eb k
          obtain ⟨st, fl⟩ := x
          simp only at e0 e1 hxf
          have d3 := (HB.out.cell (p := ⟨w.heap.size + 1, 1, none⟩) (by omega)).trans C3.out
          have HXA : Hid (Below wr.heap.size wr (wr.alloc (.cells #[.string st, .string fl] 47))) := (Below.refl _ _).alloc (Nat.le_refl _) _
          have hzr : w.heap.size + 1 < wr.heap.size := by omega
          clear hx HG hxf
          go_wp2_with fail
          refine (stemPlace_any _ _ eb st ((HEB.out.below HB.out).below HXA.out) HAB.out (by omega)).mono ?_
          rintro e w4 ⟨ip, rfl, hb4⟩
          have HB4 : Hid (Below wr.heap.size wr w4) := HXA.out.trans (hb4.mono (by simp))
          have s4 : w4.cell? ⟨wr.heap.size, 0, none⟩ = some (.string st) := (hb4.cell (p := ⟨wr.heap.size, 0, none⟩) (by simp)).trans (by simp [go_sem])
          have HD4 : Hid (DRow w4 w2.heap.size (.slice b0 (goesOf (ea.take k) eb).length cq0) (.slice none 0 0) false (.slice none 0 0)) := HDR.out.below HB4.out
          have HO4 : Hid (w4.ownsRow (w2.heap.size + 1) 9 1 (.slice b0 (goesOf (ea.take k) eb).length cq0) (goesOf (ea.take k) eb).length (texts (goesOf (ea.take k) eb))) := owns_below HO.out HB4.out
          have hz4 : wr.heap.size < w4.heap.size := by have := hb4.size; simp at this; omega
          have HBW : Hid (Below w2.heap.size w2 w4) := HB.out.trans (HB4.out.mono HB.out.size)
          clear hb4 e0 e1 d3
          cases hth : (eb.any fun e => e.1.toList == st.toList) with
          | true =>
            have HGF : Hid (goesOf (ea.take (k + 1)) eb = goesOf (ea.take k) eb) := by show goesOf _ _ = _; rw [HG2.out]; simp [goesF, hth]
            clear s4
            go_wp2
            go_roundw
            case rel => exact ⟨k + 1, _, by omega, by go_num, HD4.out, by rw [HGF.out]; exact HO4.out, HBW.out, by omega⟩
            case measure => simp [intOf]; omega
          | false =>
            have HGF : Hid (goesOf (ea.take (k + 1)) eb = goesOf (ea.take k) eb ++ [st]) := by show goesOf _ _ = _; rw [HG2.out]; simp [goesF, hth]
            have g0 := HD4.out.c0
            go_wp2_with (at_builtin; refine wpList_append_own _ rfl _ _ 27 rfl (w2.heap.size + 1) 9 i3 (.string ⟨#[]⟩) 1 16 Try.underlying27 hi3 hz3 hs3 hb3 rfl (by decide) _ _ _ rfl (HO4.out.alloc _) ⟨_, 0, none⟩ 1 1 [.string st] rfl rfl (cell_one_new _ _ _) (one_text st) (by unfold maxLen; omega) (by omega) (by rw [World.size_alloc]; omega) ?_; intro v' w5 hown hgrow hnil; have HD5 : Hid (DRow w5 w2.heap.size (.slice b0 (goesOf (ea.take k) eb).length cq0) (.slice none 0 0) false (.slice none 0 0)) := (HD4.out.alloc _).grown hgrow (owns_ne HO4.out (by omega)); have HB5 : Hid (Below w2.heap.size w2 w5) := Below.grown (HBW.out.alloc HBW.out.size _) hgrow (by rw [World.size_alloc]; omega) (fun k' hk' => by have := own_block_ge HO4.out k' hk'; omega); have hs5 : w2.heap.size + 1 ≤ w5.heap.size := (by have := hgrow.size; rw [World.size_alloc] at this; omega); have HO5 : Hid (w5.ownsRow (w2.heap.size + 1) 9 1 v' ((goesOf (ea.take k) eb).length + 1) (texts (goesOf (ea.take k) eb) ++ [.string st])) := hown; have q0 := HD5.out.c0; have q1 := HD5.out.fz 0; clear hgrow hnil; obtain ⟨ag, cg, rfl⟩ := owns_form hown; clear hown)
            go_roundw
            case rel =>
              refine ⟨k + 1, _, by omega, by go_num, HD5.out.set0 _, ?_, HB5.out.setCell (Nat.le_refl _) _, by rw [Go.Deep.nblk_setCell]; exact hs5⟩
              rw [HGF.out, List.length_append, texts_append]
              exact owns_set HO5.out _ _ _ (by omega)
            case measure => simp [intOf]; omega
        · have hke : k = ea.length := by omega
          subst hke
          have hG : goesOf (ea.take ea.length) eb = goesOf ea eb := by rw [List.take_length]
          have HO1 : Hid (wr.ownsRow (w2.heap.size + 1) 9 1 (.slice b0 (goesOf ea eb).length cq0) (goesOf ea eb).length (texts (goesOf ea eb))) := by have := HO.out; rw [hG] at this; exact this
          have HDR1 : Hid (DRow wr w2.heap.size (.slice b0 (goesOf ea eb).length cq0) (.slice none 0 0) false (.slice none 0 0)) := by have := HDR.out; rw [hG] at this; exact this
          have hgl : (goesOf ea eb).length ≤ 24 := by have := goes_len ea eb ea.length; rw [hG] at this; omega
          have HGS : Hid (∀ (i : Nat) (x : ByteArray), (goesOf ea eb)[i]? = some x → x.size ≤ maxLen) := fun i x hx => by
            have := List.mem_of_getElem? hx
            unfold goesOf at this
            obtain ⟨y, hy, rfl⟩ := List.mem_map.1 this
            obtain ⟨j, hj, he⟩ := List.mem_iff_getElem.1 (List.mem_filter.1 hy).1
            exact (HEA.out.fit j y (by rw [List.getElem?_eq_getElem hj, he])).1
          have HCS : Hid (∀ (i : Nat) (x : ByteArray × ByteArray), (comesOf ea eb)[i]? = some x → x.1.size ≤ maxLen ∧ x.2.size ≤ maxLen) := fun i x hx => by
            have := List.mem_of_getElem? hx
            obtain ⟨j, hj, he⟩ := List.mem_iff_getElem.1 (List.mem_filter.1 this).1
            exact HEB.out.fit j x (by rw [List.getElem?_eq_getElem hj, he])
          clear hG HO hlt hk HDR
          generalize goesOf ea eb = GS at *
          have d3 := (HB.out.cell (p := ⟨w.heap.size + 1, 1, none⟩) (by omega)).trans C3.out
          go_wp2
          go_loopw [49] (fun i wr => ∃ (k : Nat) (v1 : Value), k ≤ eb.length ∧ i = .int .i64 k ∧ DRow wr w2.heap.size (.slice b0 GS.length cq0) v1 false (.slice none 0 0) ∧ wr.ownsRow (w2.heap.size + 1) 9 1 (.slice b0 GS.length cq0) GS.length (texts GS) ∧ wr.ownsRow (w2.heap.size + 1) 47 2 v1 (comesOf ea (eb.take k)).length (entCells (comesOf ea (eb.take k))) ∧ Below w2.heap.size w2 wr ∧ w2.heap.size + 1 ≤ wr.heap.size) (fun i _ => eb.length - (intOf i).toNat)
          case atStart => exact ⟨0, _, Nat.zero_le _, rfl, HDR1.out, HO1.out, World.ownsRow_nil _ _ _ _, HB.out, hsz⟩
          case round =>
            clear HB HDR1 HO1 hsz d3
            obtain ⟨k, v1, hk, rfl, hd, hog, ho, hb, hsz⟩ := hrel
            have HDR : Hid (DRow wr w2.heap.size (.slice b0 GS.length cq0) v1 false (.slice none 0 0)) := hd
            have HOG : Hid (wr.ownsRow (w2.heap.size + 1) 9 1 (.slice b0 GS.length cq0) GS.length (texts GS)) := hog
            have HO : Hid (wr.ownsRow (w2.heap.size + 1) 47 2 v1 (comesOf ea (eb.take k)).length (entCells (comesOf ea (eb.take k)))) := ho
            have HB : Hid (Below w2.heap.size w2 wr) := hb
            obtain ⟨b1, cq1, rfl⟩ := owns_form ho
            clear hd ho hb hog
            by_cases hlt : k < eb.length
            · obtain ⟨b, off, cap', x, hv, hbl, hx, hxf, e0, e1⟩ := (HEB.out.below HB.out).at hlt
              cases hv
              have HG2 : Hid (comesOf ea (eb.take (k + 1)) = comesOf ea (eb.take k) ++ if comesF ea x then [x] else []) := comes_take hx
              have hcl := comes_len ea eb k
              obtain ⟨st, fl⟩ := x
              simp only at e0 e1 hxf
              have d1 := (HB.out.cell (p := ⟨w.heap.size, 1, none⟩) (by omega)).trans C1.out
              have HXA : Hid (Below wr.heap.size wr (wr.alloc (.cells #[.string st, .string fl] 47))) := (Below.refl _ _).alloc (Nat.le_refl _) _
              have hzr : w.heap.size < wr.heap.size := by omega
              clear hx hxf
              go_wp2_with fail
              refine (eContains_any _ _ ea (st, fl) ((HEA.out.below HB.out).below HXA.out)).mono ?_
              rintro e w4 ⟨rfl, hb4⟩
              have HB4 : Hid (Below wr.heap.size wr w4) := HXA.out.trans (hb4.mono (by simp))
              have s4 : w4.cell? ⟨wr.heap.size, 0, none⟩ = some (.string st) := (hb4.cell (p := ⟨wr.heap.size, 0, none⟩) (by simp)).trans (by simp [go_sem])
              have s5 : w4.cell? ⟨wr.heap.size, 1, none⟩ = some (.string fl) := (hb4.cell (p := ⟨wr.heap.size, 1, none⟩) (by simp)).trans (by simp [go_sem])
              have HD4 : Hid (DRow w4 w2.heap.size (.slice b0 GS.length cq0) (.slice b1 (comesOf ea (eb.take k)).length cq1) false (.slice none 0 0)) := HDR.out.below HB4.out
              have HOG4 : Hid (w4.ownsRow (w2.heap.size + 1) 9 1 (.slice b0 GS.length cq0) GS.length (texts GS)) := owns_below HOG.out HB4.out
              have HO4 : Hid (w4.ownsRow (w2.heap.size + 1) 47 2 (.slice b1 (comesOf ea (eb.take k)).length cq1) (comesOf ea (eb.take k)).length (entCells (comesOf ea (eb.take k)))) := owns_below HO.out HB4.out
              have hz4 : wr.heap.size < w4.heap.size := by have := hb4.size; simp at this; omega
              have HBW : Hid (Below w2.heap.size w2 w4) := HB.out.trans (HB4.out.mono HB.out.size)
              clear hb4 e0 e1 d1
              cases hth : entIn ea (st, fl) with
              | true =>
                have HGF : Hid (comesOf ea (eb.take (k + 1)) = comesOf ea (eb.take k)) := by show comesOf _ _ = _; rw [HG2.out]; simp [comesF, hth]
                clear s4 s5
                go_wp2
                go_roundw
                case rel => exact ⟨k + 1, _, by omega, by go_num, HD4.out, HOG4.out, by rw [HGF.out]; exact HO4.out, HBW.out, by omega⟩
                case measure => simp [intOf]; omega
              | false =>
                have HGF : Hid (comesOf ea (eb.take (k + 1)) = comesOf ea (eb.take k) ++ [(st, fl)]) := by show comesOf _ _ = _; rw [HG2.out]; simp [comesF, hth]
                have g0 := HD4.out.c1
                go_wp2_with (at_builtin; refine wpList_append_own _ rfl _ _ 28 rfl (w2.heap.size + 1) 47 i4 (.agg #[.string ⟨#[]⟩, .string ⟨#[]⟩]) 2 32 Try.underlying28 hi4 hz4' hs4 hb4' rfl (by decide) _ _ _ rfl (HO4.out.alloc _) ⟨_, 0, none⟩ 1 1 [.string st, .string fl] rfl rfl (news_cells (cs := #[.string st, .string fl]) (heap_alloc_last _ _)) (by simp [Value.oneCell']) (by unfold maxLen; omega) (by omega) (by rw [World.size_alloc]; omega) ?_; intro v' w5 hown hgrow hnil; have HD5 : Hid (DRow w5 w2.heap.size (.slice b0 GS.length cq0) (.slice b1 (comesOf ea (eb.take k)).length cq1) false (.slice none 0 0)) := (HD4.out.alloc _).grown hgrow (owns_ne HO4.out (by omega)); have HOG5 : Hid (w5.ownsRow (w2.heap.size + 1) 9 1 (.slice b0 GS.length cq0) GS.length (texts GS)) := (HOG4.out.alloc _).kept hgrow (rows_apart HOG4.out HO4.out (by decide)); have HB5 : Hid (Below w2.heap.size w2 w5) := Below.grown (HBW.out.alloc HBW.out.size _) hgrow (by rw [World.size_alloc]; omega) (fun k' hk' => by have := own_block_ge HO4.out k' hk'; omega); have hs5 : w2.heap.size + 1 ≤ w5.heap.size := (by have := hgrow.size; rw [World.size_alloc] at this; omega); have HO5 : Hid (w5.ownsRow (w2.heap.size + 1) 47 2 v' ((comesOf ea (eb.take k)).length + 1) (entCells (comesOf ea (eb.take k)) ++ [.string st, .string fl])) := hown; have q0 := HD5.out.c1; have q1 := HD5.out.fz 1; clear hgrow hnil; obtain ⟨ag, cg, rfl⟩ := owns_form hown; clear hown)
                go_roundw
                case rel =>
                  refine ⟨k + 1, _, by omega, by go_num, HD5.out.set1 _, owns_set HOG5.out _ _ _ (by omega), ?_, HB5.out.setCell (Nat.le_refl _) _, by rw [Go.Deep.nblk_setCell]; exact hs5⟩
                  rw [HGF.out, List.length_append, entCells_append]
                  exact owns_set HO5.out _ _ _ (by omega)
                case measure => simp [intOf]; omega
            · have hke : k = eb.length := by omega
              subst hke
              have hG : comesOf ea (eb.take eb.length) = comesOf ea eb := by rw [List.take_length]
              have HO1 : Hid (wr.ownsRow (w2.heap.size + 1) 47 2 (.slice b1 (comesOf ea eb).length cq1) (comesOf ea eb).length (entCells (comesOf ea eb))) := by have := HO.out; rw [hG] at this; exact this
              have HDR1 : Hid (DRow wr w2.heap.size (.slice b0 GS.length cq0) (.slice b1 (comesOf ea eb).length cq1) false (.slice none 0 0)) := by have := HDR.out; rw [hG] at this; exact this
              clear hG HO hlt hk HDR
              generalize comesOf ea eb = CS at *
              have d0 := (HB.out.cell (p := ⟨w.heap.size, 0, none⟩) (by omega)).trans C0.out
              have d2 := (HB.out.cell (p := ⟨w.heap.size + 1, 0, none⟩) (by omega)).trans C2.out
              have HRR : Hid (DRow wr (w.heap.size + 1 + 1) (.slice none 0 0) (.slice none 0 0) false (.slice none 0 0)) := World.rowIs.of_block HR2.out (HB.out.block _ hz2)
              go_wp2_with fail
              refine (sEqualA_any _ _ _ xa xb (HAA2.out.below HB.out) (HAB2.out.below HB.out)).mono ?_
              rintro e w4 ⟨rfl, hb4⟩
              have HD4 : Hid (DRow w4 w2.heap.size (.slice b0 GS.length cq0) (.slice b1 CS.length cq1) false (.slice none 0 0)) := HDR1.out.below hb4
              have HR4 : Hid (DRow w4 (w.heap.size + 1 + 1) (.slice none 0 0) (.slice none 0 0) false (.slice none 0 0)) := HRR.out.below hb4
              have HB4 : Hid (Below w2.heap.size w2 w4) := HB.out.trans (hb4.mono HB.out.size)
              have HRW4 : Hid (DRows (w2.heap.size + 1) w4 (.slice b0 GS.length cq0) (.slice b1 CS.length cq1) (.slice none 0 0) GS CS []) := ⟨owns_below HOG.out hb4, owns_below HO1.out hb4, World.ownsRow_nil _ _ _ _⟩
              have d4 := (hb4.cell (p := ⟨w.heap.size + 1, 0, none⟩) (show w.heap.size + 1 < wr.heap.size by omega)).trans d2
              have hs4z : w2.heap.size + 1 ≤ w4.heap.size := Nat.le_trans hsz hb4.size
              clear hb4 d0 d2
              cases hq : affsEq xa xb with
              | true =>
                have HDD : Hid (dofT xa ea xb eb = (GS, CS, false, [])) := by show dofT _ _ _ _ = _; rw [HD.out, hq]; rfl
                have g0 := HD4.out.c0
                have g1 := HD4.out.c1
                have g2 := HD4.out.c2
                have g3 := HD4.out.c3
                have r0 := HR4.out.c0
                have r1 := HR4.out.c1
                have r2 := HR4.out.c2
                have r3 := HR4.out.c3
                have f0 := HR4.out.fz 0
                have f1 := HR4.out.fz 1
                have f2 := HR4.out.fz 2
                have f3 := HR4.out.fz 3
                go_wp2
                have HF := (((HR4.out.set0 (.slice b0 GS.length cq0)).set1 (.slice b1 CS.length cq1)).set2 false).set3 (.slice none 0 0)
                have q0 := HF.c0
                have q1 := HF.c1
                have q2 := HF.c2
                have q3 := HF.c3
                refine bodyPost_ret (v := .agg #[.slice b0 GS.length cq0, .slice b1 CS.length cq1, .bool false, .slice none 0 0]) (by simp [results, Try.results7, go_sem, q0, q1, q2, q3]) rfl ⟨_, rfl, ?_, ?_⟩
                · rw [HDD.out]
                  have h := ((((HRW4.out.set (w.heap.size + 1 + 1) 0 (.slice b0 GS.length cq0) (by omega)).set (w.heap.size + 1 + 1) 1 (.slice b1 CS.length cq1) (by omega)).set (w.heap.size + 1 + 1) 2 (.bool false) (by omega)).set (w.heap.size + 1 + 1) 3 (.slice none 0 0) (by omega))
                  exact (h.low (by omega)).own false HGS.out HCS.out (fun i x hx => by simp at hx)
                · exact ((((HB2.out.trans (HB4.out.mono HB2.out.size)).setCell (by simp <;> omega) _).setCell (by simp <;> omega) _).setCell (by simp <;> omega) _).setCell (by simp <;> omega) _
              | false =>
                have HDD : Hid (dofT xa ea xb eb = (GS, CS, true, xb)) := by show dofT _ _ _ _ = _; rw [HD.out, hq]; rfl
                have hz4a : w.heap.size + 1 + 1 < w4.heap.size := by omega
                go_wp2_with fail
                refine (copyOfA_any _ _ xb ((HAB2.out.below HB4.out)) (by omega)).mono ?_
                rintro e w5 ⟨v3, rfl, ho5, hb5⟩
                obtain ⟨b3, q3c, rfl⟩ := owns_form ho5
                have HD5 : Hid (DRow w5 w2.heap.size (.slice b0 GS.length cq0) (.slice b1 CS.length cq1) false (.slice none 0 0)) := HD4.out.below hb5
                have HR5 : Hid (DRow w5 (w.heap.size + 1 + 1) (.slice none 0 0) (.slice none 0 0) false (.slice none 0 0)) := HR4.out.below hb5
                have HB5 : Hid (Below w2.heap.size w2 w5) := HB4.out.trans (hb5.mono HB4.out.size)
                have HRW5 : Hid (DRows (w2.heap.size + 1) w5 (.slice b0 GS.length cq0) (.slice b1 CS.length cq1) (.slice b3 xb.length q3c) GS CS xb) := ⟨owns_below HRW4.out.1 hb5, owns_below HRW4.out.2.1 hb5, owns_lower ho5 hs4z⟩
                have hne5 : w.heap.size + 1 + 1 ≠ w2.heap.size := by omega
                clear hb5 ho5 d4
                have g0 := HD5.out.c0
                have g1 := HD5.out.c1
                have g2 := HD5.out.c2
                have g3 := HD5.out.c3
                have t2 := HD5.out.fz 2
                have t3 := HD5.out.fz 3
                have r0 := HR5.out.c0
                have r1 := HR5.out.c1
                have r2 := HR5.out.c2
                have r3 := HR5.out.c3
                have f0 := HR5.out.fz 0
                have f1 := HR5.out.fz 1
                have f2 := HR5.out.fz 2
                have f3 := HR5.out.fz 3
                go_wp2
                have HS5 := (HR5.out.other (p := ⟨w2.heap.size, 2, none⟩) hne5 (.bool true)).other (p := ⟨w2.heap.size, 3, none⟩) hne5 (.slice b3 xb.length q3c)
                have HF := (((HS5.set0 (.slice b0 GS.length cq0)).set1 (.slice b1 CS.length cq1)).set2 true).set3 (.slice b3 xb.length q3c)
                have q0 := HF.c0
                have q1 := HF.c1
                have q2 := HF.c2
                have q3 := HF.c3
                refine bodyPost_ret (v := .agg #[.slice b0 GS.length cq0, .slice b1 CS.length cq1, .bool true, .slice b3 xb.length q3c]) (by simp [results, Try.results7, go_sem, q0, q1, q2, q3]) rfl ⟨_, rfl, ?_, ?_⟩
                · rw [HDD.out]
                  have h := ((((((HRW5.out.set w2.heap.size 2 (.bool true) (by omega)).set w2.heap.size 3 (.slice b3 xb.length q3c) (by omega)).set (w.heap.size + 1 + 1) 0 (.slice b0 GS.length cq0) (by omega)).set (w.heap.size + 1 + 1) 1 (.slice b1 CS.length cq1) (by omega)).set (w.heap.size + 1 + 1) 2 (.bool true) (by omega)).set (w.heap.size + 1 + 1) 3 (.slice b3 xb.length q3c) (by omega))
                  exact (h.low (by omega)).own true HGS.out HCS.out HAB2.out.fit
                · exact ((((((HB2.out.trans (HB5.out.mono HB2.out.size)).setCell (by simp <;> omega) _).setCell (by simp <;> omega) _).setCell (by simp <;> omega) _).setCell (by simp <;> omega) _).setCell (by simp <;> omega) _).setCell (by simp <;> omega) _
end Go.Proofs.Ytbbepdmogkadeaa
