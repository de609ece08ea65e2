/-
  spec.DeltaOf.
-/
import Derived.Test.YtkepmjebnkcbgaaGreatDoorGM49
import Derived.Test.YtkepmjebnkcbgaaGreatDoorGW78
import Derived.Deep.RegionLaw
namespace Go.Proofs.YtkepmjebnkcbgaaGreatDoor
open Go.RowKit
set_option linter.unusedVariables false
/-- A stem that is there stands at its place, and nowhere else. -/
theorem found_place (t : ByteArray) : ∀ es : List (ByteArray × ByteArray), AscE es → (es.any fun e => e.1.toList == t.toList) = true → ∃ p, es[placeT es t]? = some p ∧ p.1.toList = t.toList ∧ ∀ q ∈ es, q.1.toList = t.toList → q = p
  | [], _, h => by simp at h
  | x :: xs, ha, h => by
    unfold AscE at ha
    rw [List.pairwise_cons] at ha
    by_cases hx : x.1.toList = t.toList
    · have hl : Op.bytesLess x.1.toList t.toList = false := by rw [hx]; exact bytesLess_self _
      have hp : placeT (x :: xs) t = 0 := by unfold placeT; rw [List.takeWhile_cons, if_neg (by rw [hl]; simp)]; rfl
      refine ⟨x, by rw [hp]; rfl, hx, fun q hq hqt => ?_⟩
      rcases List.mem_cons.1 hq with rfl | hq
      · rfl
      · have := ha.1 q hq
        rw [hx, hqt, bytesLess_self] at this
        cases this
    · have h2 : (xs.any fun e => e.1.toList == t.toList) = true := by
        rw [List.any_cons] at h
        simpa [hx] using h
      obtain ⟨y, hy, hyt⟩ := List.any_eq_true.1 h2
      have hl : Op.bytesLess x.1.toList t.toList = true := by
        have := ha.1 y hy
        rwa [beq_iff_eq.1 hyt] at this
      obtain ⟨p, hp1, hp2, hp3⟩ := found_place t xs ha.2 h2
      have hp : placeT (x :: xs) t = placeT xs t + 1 := by unfold placeT; rw [List.takeWhile_cons, if_pos hl]; rfl
      refine ⟨p, by rw [hp]; simpa using hp1, hp2, fun q hq hqt => ?_⟩
      rcases List.mem_cons.1 hq with rfl | hq
      · exact absurd hqt hx
      · exact hp3 q hq hqt
theorem alone_alloc {W : World} {n lo : Nat} (h : W.heap.size = n) (t : TypeId) (size : Nat) (hlo : lo ≤ n) : (W.alloc (.cells #[] t)).ownsRow lo t size (.slice (some ⟨n, 0, none⟩) 0 0) 0 [] := by
  subst h
  exact owns_alone (heap_alloc_last _ _) hlo
theorem entIn_no {es : List (ByteArray × ByteArray)} {e : ByteArray × ByteArray} (h : (es.any fun f => f.1.toList == e.1.toList) = false) : entIn es e = false := by
  unfold entIn
  rw [List.any_eq_false] at h ⊢
  intro x hx hq
  have h1 := h x hx
  simp only [entEq, decide_eq_true_eq] at hq
  exact h1 (by rw [hq.1]; simp)
theorem entIn_at {es : List (ByteArray × ByteArray)} {e p : ByteArray × ByteArray} (hp : p ∈ es) (h2 : p.1.toList = e.1.toList) (h3 : ∀ q ∈ es, q.1.toList = e.1.toList → q = p) : entIn es e = entEq p e := by
  rw [entEq_comm, Bool.eq_iff_iff]
  unfold entIn
  rw [List.any_eq_true]
  constructor
  · rintro ⟨q, hq, hqe⟩
    have hq1 : q.1.toList = e.1.toList := by
      simp only [entEq, decide_eq_true_eq] at hqe
      exact hqe.1.symm
    rw [h3 q hq hq1] at hqe
    exact hqe
  · intro h
    exact ⟨p, hp, h⟩
theorem DeltaOwn.low148 {lo lo' hi : Nat} {w : World} {v : Value} {x : DeltaM} (h : DeltaOwn lo hi w v x) (hl : lo' ≤ lo) : DeltaOwn lo' hi w v x := by
  obtain ⟨vg, vc, vl, hv, h1, h2, h3⟩ := h
  exact ⟨vg, vc, vl, hv, h1.weak hl (Nat.le_refl _), h2.weak hl (Nat.le_refl _), h3.weak hl (Nat.le_refl _)⟩
set_option maxRecDepth 100000 in
set_option maxHeartbeats 4000000 in
theorem specDeltaOf_own (w : World) (va ve ua ue : Value) (xa : List Aff) (ea : List (ByteArray × ByteArray)) (xb : List Aff) (eb : List (ByteArray × ByteArray)) (ha : AffsAt w va xa) (he : EntsAt w ve ea) (ha' : AffsAt w ua xb) (he' : EntsAt w ue eb) :
    Calls Tryz.prog 45 #[.agg #[va, ve], .agg #[ua, ue]] w fun e w' => ∃ v, e = .returned v ∧ DeltaOwn w.heap.size w'.heap.size w' v (dofT xa ea xb eb) ∧ Below w.heap.size w w' := by
  obtain ⟨a0, cap0, rfl, hc0, hm0⟩ := ha.form
  obtain ⟨a1, cap1, rfl, hc1, hm1⟩ := he.form
  obtain ⟨a2, cap2, rfl, hc2, hm2⟩ := ha'.form
  obtain ⟨a3, cap3, rfl, hc3, hm3⟩ := he'.form
  have HA : Hid (AffsAt w (.slice a0 xa.length cap0) xa) := ha
  have HE : Hid (EntsAt w (.slice a1 ea.length cap1) ea) := he
  have HA' : Hid (AffsAt w (.slice a2 xb.length cap2) xb) := ha'
  have HE' : Hid (EntsAt w (.slice a3 eb.length cap3) eb) := he'
  clear ha he ha' he'
  unfold maxLen at hm0 hm1 hm2 hm3
  obtain ⟨i3, hi3, hz3, hs3, hb3⟩ := info_parts Tryz.info_str146
  obtain ⟨i4, hi4, hz4', hs4, hb4'⟩ := info_parts Tryz.info_ent146
  obtain ⟨i5, hi5, hz5, hs5, hb5⟩ := info_parts Tryz.info_aff146
  have HX : Hid (Below w.heap.size w ((((w.alloc (.cells #[.slice a0 xa.length cap0, .slice a1 ea.length cap1] 43)).alloc (.cells #[.slice a2 xb.length cap2, .slice a3 eb.length cap3] 43)).alloc (.cells #[.slice none 0 0, .slice none 0 0, .bool false, .slice none 0 0] 35)).alloc (.cells #[.slice none 0 0, .slice none 0 0, .bool false, .slice none 0 0] 35))) := ((((Below.refl _ _).alloc (Nat.le_refl _) _).alloc (by simp) _).alloc (by simp <;> omega) _).alloc (by simp <;> omega) _
  go_enter Tryz.func45, Tryz.ntmps45
  go_wp2_with fail
  refine (specBookOk_any _ _ _ xa ea (HA.out.below HX.out) (HE.out.below HX.out)).mono ?_
  rintro e w1 ⟨rfl, hb1⟩
  have HB1 : Hid (Below w.heap.size w w1) := HX.out.trans (hb1.mono (by simp <;> omega))
  have c1_0 : w1.cell? ⟨w.heap.size, 0, none⟩ = some (.slice a0 xa.length cap0) := (hb1.cell (p := ⟨w.heap.size, 0, none⟩) (by simp <;> omega)).trans (by simp [go_sem])
  have c1_1 : w1.cell? ⟨w.heap.size, 1, none⟩ = some (.slice a1 ea.length cap1) := (hb1.cell (p := ⟨w.heap.size, 1, none⟩) (by simp <;> omega)).trans (by simp [go_sem])
  have c1_2 : w1.cell? ⟨w.heap.size + 1, 0, none⟩ = some (.slice a2 xb.length cap2) := (hb1.cell (p := ⟨w.heap.size + 1, 0, none⟩) (by simp <;> omega)).trans (by simp [go_sem])
  have c1_3 : w1.cell? ⟨w.heap.size + 1, 1, none⟩ = some (.slice a3 eb.length cap3) := (hb1.cell (p := ⟨w.heap.size + 1, 1, none⟩) (by simp <;> omega)).trans (by simp [go_sem])
  have HR1 : Hid (DRow w1 (w.heap.size + 1 + 1) (.slice none 0 0) (.slice none 0 0) false (.slice none 0 0)) := by
    have h := (DRow.new ((w.alloc (.cells #[.slice a0 xa.length cap0, .slice a1 ea.length cap1] 43)).alloc (.cells #[.slice a2 xb.length cap2, .slice a3 eb.length cap3] 43)) (.slice none 0 0) (.slice none 0 0) false (.slice none 0 0)).alloc (.cells #[.slice none 0 0, .slice none 0 0, .bool false, .slice none 0 0] 35)
    simp only [World.size_alloc] at h
    exact h.below hb1
  have HD1 : Hid (DRow w1 (w.heap.size + 1 + 1 + 1) (.slice none 0 0) (.slice none 0 0) false (.slice none 0 0)) := by
    have h := DRow.new (((w.alloc (.cells #[.slice a0 xa.length cap0, .slice a1 ea.length cap1] 43)).alloc (.cells #[.slice a2 xb.length cap2, .slice a3 eb.length cap3] 43)).alloc (.cells #[.slice none 0 0, .slice none 0 0, .bool false, .slice none 0 0] 35)) (.slice none 0 0) (.slice none 0 0) false (.slice none 0 0)
    simp only [World.size_alloc] at h
    exact h.below hb1
  have hz1 : w.heap.size + 1 + 1 + 1 < w1.heap.size := by have := hb1.size; simp at this; omega
  clear hb1
  cases hba : bookT xa ea with
  | false =>
    have HD : Hid (dofT xa ea xb eb = ([], [], false, [])) := if_neg (by simp [hba])
    have g0 := HD1.out.c0
    have g1 := HD1.out.c1
    have g2 := HD1.out.c2
    have g3 := HD1.out.c3
    have r0 := HR1.out.c0
    have f0 := HR1.out.fz 0
    have r1 := HR1.out.c1
    have f1 := HR1.out.fz 1
    have r2 := HR1.out.c2
    have f2 := HR1.out.fz 2
    have r3 := HR1.out.c3
    have f3 := HR1.out.fz 3
    go_wp2
    have HF := (((HR1.out.set0 (.slice none 0 0)).set1 (.slice none 0 0)).set2 false).set3 (.slice none 0 0)
    have q0 := HF.c0
    have q1 := HF.c1
    have q2 := HF.c2
    have q3 := HF.c3
    refine bodyPost_ret (v := .agg #[.slice none 0 0, .slice none 0 0, .bool false, .slice none 0 0]) (by simp [results, Tryz.results45, go_sem, q0, q1, q2, q3]) rfl ⟨_, rfl, ?_, ?_⟩
    · rw [HD.out]
      exact nil_own _ _ _ _
    · exact (((HB1.out.setCell (by simp <;> omega) _).setCell (by simp <;> omega) _).setCell (by simp <;> omega) _).setCell (by simp <;> omega) _
  | true =>
    go_wp2_with fail
    refine (specBookOk_any _ _ _ xb eb (HA'.out.below HB1.out) (HE'.out.below HB1.out)).mono ?_
    rintro e w2 ⟨rfl, hb2⟩
    have HB2 : Hid (Below w.heap.size w w2) := HB1.out.trans (hb2.mono HB1.out.size)
    have c2_0 := (hb2.cell (p := ⟨w.heap.size, 0, none⟩) (by simp <;> omega)).trans c1_0
    have c2_1 := (hb2.cell (p := ⟨w.heap.size, 1, none⟩) (by simp <;> omega)).trans c1_1
    have c2_2 := (hb2.cell (p := ⟨w.heap.size + 1, 0, none⟩) (by simp <;> omega)).trans c1_2
    have c2_3 := (hb2.cell (p := ⟨w.heap.size + 1, 1, none⟩) (by simp <;> omega)).trans c1_3
    have HR2 : Hid (DRow w2 (w.heap.size + 1 + 1) (.slice none 0 0) (.slice none 0 0) false (.slice none 0 0)) := HR1.out.below hb2
    have HD2 : Hid (DRow w2 (w.heap.size + 1 + 1 + 1) (.slice none 0 0) (.slice none 0 0) false (.slice none 0 0)) := HD1.out.below hb2
    have hz2 : w.heap.size + 1 + 1 + 1 < w2.heap.size := by have := hb2.size; omega
    clear hb2 c1_0 c1_1 c1_2 c1_3 HR1 HD1 hz1
    cases hbb : bookT xb eb with
    | false =>
      have HD : Hid (dofT xa ea xb eb = ([], [], false, [])) := if_neg (by simp [hbb])
      have g0 := HD2.out.c0
      have g1 := HD2.out.c1
      have g2 := HD2.out.c2
      have g3 := HD2.out.c3
      have r0 := HR2.out.c0
      have f0 := HR2.out.fz 0
      have r1 := HR2.out.c1
      have f1 := HR2.out.fz 1
      have r2 := HR2.out.c2
      have f2 := HR2.out.fz 2
      have r3 := HR2.out.c3
      have f3 := HR2.out.fz 3
      go_wp2
      have HF := (((HR2.out.set0 (.slice none 0 0)).set1 (.slice none 0 0)).set2 false).set3 (.slice none 0 0)
      have q0 := HF.c0
      have q1 := HF.c1
      have q2 := HF.c2
      have q3 := HF.c3
      refine bodyPost_ret (v := .agg #[.slice none 0 0, .slice none 0 0, .bool false, .slice none 0 0]) (by simp [results, Tryz.results45, go_sem, q0, q1, q2, q3]) rfl ⟨_, rfl, ?_, ?_⟩
      · rw [HD.out]
        exact nil_own _ _ _ _
      · exact (((HB2.out.setCell (by simp <;> omega) _).setCell (by simp <;> omega) _).setCell (by simp <;> omega) _).setCell (by simp <;> omega) _
    | true =>
      have HD : Hid (dofT xa ea xb eb = (goesOf ea eb, comesOf ea eb, !affsEq xa xb, if affsEq xa xb then [] else xb)) := if_pos (by simp [hba, hbb])
      obtain ⟨haa, hea⟩ := bookT_parts hba
      obtain ⟨hab, heb⟩ := bookT_parts hbb
      obtain ⟨hAa, hla⟩ := entsT_asc hea
      obtain ⟨hAb, hlb⟩ := entsT_asc heb
      have HAA : Hid (AscE ea) := hAa
      have HAB : Hid (AscE eb) := hAb
      have hxb := affsT_len hab
      have C0 : Hid (w2.cell? ⟨w.heap.size, 0, none⟩ = some (.slice a0 xa.length cap0)) := c2_0
      have C1 : Hid (w2.cell? ⟨w.heap.size, 1, none⟩ = some (.slice a1 ea.length cap1)) := c2_1
      have C2 : Hid (w2.cell? ⟨w.heap.size + 1, 0, none⟩ = some (.slice a2 xb.length cap2)) := c2_2
      have C3 : Hid (w2.cell? ⟨w.heap.size + 1, 1, none⟩ = some (.slice a3 eb.length cap3)) := c2_3
      clear haa hea hab heb hAa hAb HX c2_0 c2_1 c2_2 c2_3
      go_wp2
      go_loopw [6] (fun i wr => ∃ (k : Nat) (b0 : Option Addr) (cq0 : Nat), k ≤ ea.length ∧ i = .int .i64 k ∧ DRow wr (w.heap.size + 1 + 1 + 1) (.slice b0 (goesOf (ea.take k) eb).length cq0) (.slice none 0 0) false (.slice none 0 0) ∧ wr.ownsRow ((w.heap.size + 1 + 1 + 1) + 1) 9 1 (.slice b0 (goesOf (ea.take k) eb).length cq0) (goesOf (ea.take k) eb).length (texts (goesOf (ea.take k) eb)) ∧ Below (w.heap.size + 1 + 1 + 1) w2 wr ∧ (w.heap.size + 1 + 1 + 1) + 1 ≤ wr.heap.size) (fun i _ => ea.length - (intOf i).toNat)
      case atStart => exact ⟨0, none, 0, Nat.zero_le _, rfl, HD2.out, World.ownsRow_nil _ _ _ _, Below.refl _ _, by omega⟩
      case round =>
        obtain ⟨k, b0, cq0, hk, rfl, hd, ho, hb, hsz⟩ := hrel
        have HDR : Hid (DRow wr (w.heap.size + 1 + 1 + 1) (.slice b0 (goesOf (ea.take k) eb).length cq0) (.slice none 0 0) false (.slice none 0 0)) := hd
        have HO : Hid (wr.ownsRow ((w.heap.size + 1 + 1 + 1) + 1) 9 1 (.slice b0 (goesOf (ea.take k) eb).length cq0) (goesOf (ea.take k) eb).length (texts (goesOf (ea.take k) eb))) := ho
        have HB : Hid (Below (w.heap.size + 1 + 1 + 1) w2 wr) := hb
        have HBw : Hid (Below w.heap.size w wr) := HB2.out.trans (hb.mono (by omega))
        have d1 := (hb.cell (p := ⟨w.heap.size, 1, none⟩) (by simp <;> omega)).trans C1.out
        have d3 := (hb.cell (p := ⟨w.heap.size + 1, 1, none⟩) (by simp <;> omega)).trans C3.out
        clear hd ho hb
        by_cases hlt : k < ea.length
        · obtain ⟨b, off, cap', x, hv, hbw, hx, hxf, x0, x1⟩ := HE.out.at hlt
          cases hv
          have hbl : b < wr.heap.size := Nat.lt_of_lt_of_le hbw HBw.out.size
          have e0 := (HBw.out.cell (p := ⟨b, off + k * 2, none⟩) hbw).trans x0
          have X0 : Hid (w.cell? ⟨b, off + k * 2, none⟩ = some (.string x.1)) := x0
          clear x0 x1
          have HG2 : Hid (goesOf (ea.take (k + 1)) eb = goesOf (ea.take k) eb ++ if goesF eb x then [x.1] else []) := goes_take (eb := eb) hx
          have hgl := goes_len ea eb k
          obtain ⟨st, fl⟩ := x
          simp only at e0 X0 hxf
          have j0 : (0 : Int) ≤ (k : Int) := by omega
          have j1 : (k : Int) < (ea.length : Int) := by omega
          have hzr : w.heap.size + 1 < wr.heap.size := by omega
          have HEB : Hid (EntsAt wr.drew (.slice a3 eb.length cap3) eb) := (HE'.out.below HBw.out).below (Below.refl _ _).drew
          clear hx hxf
          go_wp2_with fail
          go_region_held3 (fun w' => w'.cell? ⟨w.heap.size, 1, none⟩ = some (.slice (some ⟨b, off, none⟩) ea.length cap1) ∧ w'.cell? ⟨w.heap.size + 1, 1, none⟩ = some (.slice a3 eb.length cap3) ∧ w'.cell? ⟨b, off + k * 2, none⟩ = some (.string st)) (go_keep)
            ((go_at_call 72; refine (l5At_any _ _ eb st HEB.out HAB.out).mono ?_; rintro e w4 ⟨rfl, hb4⟩; have d4 := (hb4.cell (p := ⟨w.heap.size, 1, none⟩) (show w.heap.size < wr.heap.size by omega)).trans d1; have d5 := (hb4.cell (p := ⟨w.heap.size + 1, 1, none⟩) hzr).trans d3; have e4 := (hb4.cell (p := ⟨b, off + k * 2, none⟩) hbl).trans e0; have HB4 : Hid (Below wr.heap.size wr w4) := (Below.refl _ _).drew.trans hb4; clear hb4))
          have HD4 : Hid (DRow w4 (w.heap.size + 1 + 1 + 1) (.slice b0 (goesOf (ea.take k) eb).length cq0) (.slice none 0 0) false (.slice none 0 0)) := HDR.out.below HB4.out
          have HO4 : Hid (w4.ownsRow ((w.heap.size + 1 + 1 + 1) + 1) 9 1 (.slice b0 (goesOf (ea.take k) eb).length cq0) (goesOf (ea.take k) eb).length (texts (goesOf (ea.take k) eb))) := owns_below HO.out HB4.out
          have hz4 : wr.heap.size ≤ w4.heap.size := HB4.out.size
          have HBW : Hid (Below (w.heap.size + 1 + 1 + 1) w2 w4) := HB.out.trans (HB4.out.mono (by omega))
          clear d1 d3 e0
          cases hth : (eb.any fun e => e.1.toList == st.toList) with
          | true =>
            have HGF : Hid (goesOf (ea.take (k + 1)) eb = goesOf (ea.take k) eb) := by show goesOf _ _ = _; rw [HG2.out]; simp [goesF, hth]
            clear d4 d5 e4
            go_wp2
            go_roundw
            case rel => exact ⟨k + 1, b0, cq0, by omega, by go_num, by rw [HGF.out]; exact HD4.out, by rw [HGF.out]; exact HO4.out, HBW.out, by omega⟩
            case measure => simp [intOf]; omega
          | false =>
            have HGF : Hid (goesOf (ea.take (k + 1)) eb = goesOf (ea.take k) eb ++ [st]) := by show goesOf _ _ = _; rw [HG2.out]; simp [goesF, hth]
            have g0 := HD4.out.c0
            have hbl4 : b < w4.heap.size := by omega
            have hbd : b ≠ w.heap.size + 1 + 1 + 1 := by omega
            have hwd : w.heap.size ≠ w.heap.size + 1 + 1 + 1 := by omega
            have hwl : w.heap.size < w4.heap.size := by omega
            have hdl : w.heap.size + 1 + 1 + 1 < w4.heap.size := by omega
            go_wp2_with fail
            go_region_law ((refine step_append_own rfl (.tmp 44) (.tmp 51) 22 rfl ((w.heap.size + 1 + 1 + 1) + 1) 9 i3 (.string ⟨#[]⟩) 1 16 Tryz.underlying22 hi3 hz3 hs3 hb3 rfl (by decide) _ _ _ rfl (by exact HO4.out.alloc _) ⟨_, 0, none⟩ 1 1 [.string st] rfl rfl (by exact cell_one_new _ _ _) (one_text st) (by unfold maxLen; omega) (by omega) (by simp; omega) ?_; intro v' w5 hown hgrow hnil; have HD5 : Hid (DRow w5 (w.heap.size + 1 + 1 + 1) (.slice b0 (goesOf (ea.take k) eb).length cq0) (.slice none 0 0) false (.slice none 0 0)) := DRow.grown (by exact HD4.out.alloc _) hgrow (owns_ne HO4.out (by omega)); have HB5 : Hid (Below (w.heap.size + 1 + 1 + 1) w2 w5) := Below.grown (HBW.out.alloc (by omega) _).drew hgrow (by simp; omega) (fun k' hk' => by have := own_block_ge HO4.out k' hk'; omega); have hs5 : (w.heap.size + 1 + 1 + 1) + 1 ≤ w5.heap.size := (by have := hgrow.size; simp at this; omega); have HO5 : Hid (w5.ownsRow ((w.heap.size + 1 + 1 + 1) + 1) 9 1 v' ((goesOf (ea.take k) eb).length + 1) (texts (goesOf (ea.take k) eb) ++ [.string st])) := hown; have q0 := HD5.out.c0; have q1 := HD5.out.fz 0; have q2 := (HB5.out.cell (p := ⟨w.heap.size, 1, none⟩) (by simp <;> omega)).trans C1.out; have q3 := ((HB2.out.trans (HB5.out.mono (by omega))).cell (p := ⟨b, off + k * 2, none⟩) hbw).trans X0.out; clear hgrow hnil; obtain ⟨ag, cg, rfl⟩ := owns_form hown; clear hown))
            all_goals
              go_wp2
              go_roundw
              case rel =>
                refine ⟨k + 1, ag, cg, by omega, by go_num, ?_, ?_, HB5.out.setCell (Nat.le_refl _) _, by rw [Go.Deep.nblk_setCell]; exact hs5⟩
                · rw [HGF.out, List.length_append]
                  exact HD5.out.set0 _
                · rw [HGF.out, List.length_append, texts_append]
                  exact owns_set HO5.out _ _ _ (by omega)
              case measure => simp [intOf]; omega
        · have hke : k = ea.length := by omega
          subst hke
          have hG : goesOf (ea.take ea.length) eb = goesOf ea eb := by rw [List.take_length]
          have HO1 : Hid (wr.ownsRow ((w.heap.size + 1 + 1 + 1) + 1) 9 1 (.slice b0 (goesOf ea eb).length cq0) (goesOf ea eb).length (texts (goesOf ea eb))) := by have := HO.out; rw [hG] at this; exact this
          have HDR1 : Hid (DRow wr (w.heap.size + 1 + 1 + 1) (.slice b0 (goesOf ea eb).length cq0) (.slice none 0 0) false (.slice none 0 0)) := by have := HDR.out; rw [hG] at this; exact this
          have hgl : (goesOf ea eb).length ≤ 24 := by have := goes_len ea eb ea.length; rw [hG] at this; omega
          have HGS : Hid (∀ (i : Nat) (x : ByteArray), (goesOf ea eb)[i]? = some x → x.size ≤ maxLen) := fun i x hx => by
            have := List.mem_of_getElem? hx
            unfold goesOf at this
            obtain ⟨y, hy, rfl⟩ := List.mem_map.1 this
            obtain ⟨j, hj, he⟩ := List.mem_iff_getElem.1 (List.mem_filter.1 hy).1
            exact (HE.out.fit j y (by rw [List.getElem?_eq_getElem hj, he])).1
          have HCS : Hid (∀ (i : Nat) (x : ByteArray × ByteArray), (comesOf ea eb)[i]? = some x → x.1.size ≤ maxLen ∧ x.2.size ≤ maxLen) := fun i x hx => by
            have := List.mem_of_getElem? hx
            obtain ⟨j, hj, he⟩ := List.mem_iff_getElem.1 (List.mem_filter.1 this).1
            exact HE'.out.fit j x (by rw [List.getElem?_eq_getElem hj, he])
          clear hG HO hlt hk HDR
          generalize goesOf ea eb = GS at *
          go_wp2
          go_loopw [9] (fun i wr => ∃ (k : Nat) (b1 : Option Addr) (cq1 : Nat), k ≤ eb.length ∧ i = .int .i64 k ∧ DRow wr (w.heap.size + 1 + 1 + 1) (.slice b0 GS.length cq0) (.slice b1 (comesOf ea (eb.take k)).length cq1) false (.slice none 0 0) ∧ wr.ownsRow ((w.heap.size + 1 + 1 + 1) + 1) 9 1 (.slice b0 GS.length cq0) GS.length (texts GS) ∧ wr.ownsRow ((w.heap.size + 1 + 1 + 1) + 1) 89 2 (.slice b1 (comesOf ea (eb.take k)).length cq1) (comesOf ea (eb.take k)).length (entCells (comesOf ea (eb.take k))) ∧ Below (w.heap.size + 1 + 1 + 1) w2 wr ∧ (w.heap.size + 1 + 1 + 1) + 1 ≤ wr.heap.size) (fun i _ => eb.length - (intOf i).toNat)
          case atStart => exact ⟨0, none, 0, Nat.zero_le _, rfl, HDR1.out, HO1.out, World.ownsRow_nil _ _ _ _, HB.out, hsz⟩
          case round =>
            clear HB HDR1 HO1 hsz d1 d3 HBw
            obtain ⟨k, b1, cq1, hk, rfl, hd, hog, ho, hb, hsz⟩ := hrel
            have HDR : Hid (DRow wr (w.heap.size + 1 + 1 + 1) (.slice b0 GS.length cq0) (.slice b1 (comesOf ea (eb.take k)).length cq1) false (.slice none 0 0)) := hd
            have HOG : Hid (wr.ownsRow ((w.heap.size + 1 + 1 + 1) + 1) 9 1 (.slice b0 GS.length cq0) GS.length (texts GS)) := hog
            have HO : Hid (wr.ownsRow ((w.heap.size + 1 + 1 + 1) + 1) 89 2 (.slice b1 (comesOf ea (eb.take k)).length cq1) (comesOf ea (eb.take k)).length (entCells (comesOf ea (eb.take k)))) := ho
            have HB : Hid (Below (w.heap.size + 1 + 1 + 1) w2 wr) := hb
            have HBw : Hid (Below w.heap.size w wr) := HB2.out.trans (hb.mono (by omega))
            have d1 := (hb.cell (p := ⟨w.heap.size, 1, none⟩) (by simp <;> omega)).trans C1.out
            have d3 := (hb.cell (p := ⟨w.heap.size + 1, 1, none⟩) (by simp <;> omega)).trans C3.out
            clear hd ho hb hog
            by_cases hlt : k < eb.length
            · obtain ⟨b, off, cap', x, hv, hbw, hx, hxf, x0, x1⟩ := HE'.out.at hlt
              cases hv
              have hbl : b < wr.heap.size := Nat.lt_of_lt_of_le hbw HBw.out.size
              have e0 := (HBw.out.cell (p := ⟨b, off + k * 2, none⟩) hbw).trans x0
              have X0 : Hid (w.cell? ⟨b, off + k * 2, none⟩ = some (.string x.1)) := x0
              have X1 : Hid (w.cell? ⟨b, off + k * 2 + 1, none⟩ = some (.string x.2)) := x1
              clear x0 x1
              have HG2 : Hid (comesOf ea (eb.take (k + 1)) = (comesOf ea (eb.take k)) ++ if comesF ea x then [x] else []) := comes_take hx
              have hcl := comes_len ea eb k
              obtain ⟨st, fl⟩ := x
              simp only at e0 X0 X1 hxf
              have j0 : (0 : Int) ≤ (k : Int) := by omega
              have j1 : (k : Int) < (eb.length : Int) := by omega
              have hzr : w.heap.size + 1 < wr.heap.size := by omega
              have HEB : Hid (EntsAt wr.drew (.slice a1 ea.length cap1) ea) := (HE.out.below HBw.out).below (Below.refl _ _).drew
              clear hx hxf
              go_wp2_with fail
              go_region_held3 (fun w' => w'.cell? ⟨w.heap.size, 1, none⟩ = some (.slice a1 ea.length cap1) ∧ w'.cell? ⟨w.heap.size + 1, 1, none⟩ = some (.slice (some ⟨b, off, none⟩) eb.length cap3) ∧ w'.cell? ⟨b, off + k * 2, none⟩ = some (.string st)) (go_keep)
                ((go_at_call 72; refine (l5At_any _ _ ea st HEB.out HAA.out).mono ?_; rintro e w4 ⟨rfl, hb4⟩; have d4 := (hb4.cell (p := ⟨w.heap.size, 1, none⟩) (show w.heap.size < wr.heap.size by omega)).trans d1; have d5 := (hb4.cell (p := ⟨w.heap.size + 1, 1, none⟩) hzr).trans d3; have e4 := (hb4.cell (p := ⟨b, off + k * 2, none⟩) hbl).trans e0; have HB4 : Hid (Below wr.heap.size wr w4) := (Below.refl _ _).drew.trans hb4; clear hb4))
              have HD4 : Hid (DRow w4 (w.heap.size + 1 + 1 + 1) (.slice b0 GS.length cq0) (.slice b1 (comesOf ea (eb.take k)).length cq1) false (.slice none 0 0)) := HDR.out.below HB4.out
              have HOG4 : Hid (w4.ownsRow ((w.heap.size + 1 + 1 + 1) + 1) 9 1 (.slice b0 GS.length cq0) GS.length (texts GS)) := owns_below HOG.out HB4.out
              have HO4 : Hid (w4.ownsRow ((w.heap.size + 1 + 1 + 1) + 1) 89 2 (.slice b1 (comesOf ea (eb.take k)).length cq1) (comesOf ea (eb.take k)).length (entCells (comesOf ea (eb.take k)))) := owns_below HO.out HB4.out
              have hz4 : wr.heap.size ≤ w4.heap.size := HB4.out.size
              have HBW : Hid (Below (w.heap.size + 1 + 1 + 1) w2 w4) := HB.out.trans (HB4.out.mono (by omega))
              have HW4 : Hid (Below w.heap.size w w4) := HB2.out.trans (HBW.out.mono (by omega))
              have e5 := (HW4.out.cell (p := ⟨b, off + k * 2 + 1, none⟩) hbw).trans X1.out
              clear d1 d3 e0
              have hgd := run_entGuard
              have hne := run_entNe2
              cases hth : (ea.any fun e => e.1.toList == st.toList) with
              | false =>
                have HCF : Hid (comesOf ea (eb.take (k + 1)) = (comesOf ea (eb.take k)) ++ [(st, fl)]) := by show comesOf _ _ = _; rw [HG2.out]; simp [comesF, entIn_no (e := (st, fl)) hth]
                go_wp2_with fail
                go_quiet (fail)
                have hq6 : Below w4.heap.size w4 (w4.drewN nq) := below_drewN70 (Below.refl _ _) nq
                generalize w4.drewN nq = w6 at hq6 ⊢
                have HD6 : Hid (DRow w6 (w.heap.size + 1 + 1 + 1) (.slice b0 GS.length cq0) (.slice b1 (comesOf ea (eb.take k)).length cq1) false (.slice none 0 0)) := HD4.out.below hq6
                have HOG6 : Hid (w6.ownsRow ((w.heap.size + 1 + 1 + 1) + 1) 9 1 (.slice b0 GS.length cq0) GS.length (texts GS)) := owns_below HOG4.out hq6
                have HO6 : Hid (w6.ownsRow ((w.heap.size + 1 + 1 + 1) + 1) 89 2 (.slice b1 (comesOf ea (eb.take k)).length cq1) (comesOf ea (eb.take k)).length (entCells (comesOf ea (eb.take k)))) := owns_below HO4.out hq6
                have HBW6 : Hid (Below (w.heap.size + 1 + 1 + 1) w2 w6) := HBW.out.trans (hq6.mono (by omega))
                have hz6 : w4.heap.size ≤ w6.heap.size := hq6.size
                have d6 := (HBW6.out.cell (p := ⟨w.heap.size + 1, 1, none⟩) (by simp <;> omega)).trans C3.out
                have e6 := ((HB2.out.trans (HBW6.out.mono (by omega))).cell (p := ⟨b, off + k * 2, none⟩) hbw).trans X0.out
                have e7 := ((HB2.out.trans (HBW6.out.mono (by omega))).cell (p := ⟨b, off + k * 2 + 1, none⟩) hbw).trans X1.out
                have g0 := HD6.out.c1
                clear hq6 d4 d5 e4 e5
                have hbl6 : b < w6.heap.size := by omega
                have hbd : b ≠ w.heap.size + 1 + 1 + 1 := by omega
                have hwd : w.heap.size + 1 ≠ w.heap.size + 1 + 1 + 1 := by omega
                have hwl : w.heap.size + 1 < w6.heap.size := by omega
                have hdl : w.heap.size + 1 + 1 + 1 < w6.heap.size := by omega
                go_wp2_with fail
                go_region_law ((refine step_append_own rfl (.tmp 89) (.tmp 95) 32 rfl ((w.heap.size + 1 + 1 + 1) + 1) 89 i4 (.agg #[.string ⟨#[]⟩, .string ⟨#[]⟩]) 2 32 Tryz.underlying32 hi4 hz4' hs4 hb4' rfl (by decide) _ _ _ rfl (by exact HO6.out.alloc _) ⟨_, 0, none⟩ 1 1 [.string st, .string fl] rfl rfl (by exact news_cells (cs := #[.string st, .string fl]) (heap_alloc_last _ _)) (by simp [Value.oneCell']) (by unfold maxLen; omega) (by omega) (by simp; omega) ?_; intro v' w5 hown hgrow hnil; have HD5 : Hid (DRow w5 (w.heap.size + 1 + 1 + 1) (.slice b0 GS.length cq0) (.slice b1 (comesOf ea (eb.take k)).length cq1) false (.slice none 0 0)) := DRow.grown (by exact HD6.out.alloc _) hgrow (owns_ne HO6.out (by omega)); have HOG5 : Hid (w5.ownsRow ((w.heap.size + 1 + 1 + 1) + 1) 9 1 (.slice b0 GS.length cq0) GS.length (texts GS)) := World.ownsRow.kept (by exact HOG6.out.alloc _) hgrow (rows_apart HOG6.out HO6.out (by decide)); have HB5 : Hid (Below (w.heap.size + 1 + 1 + 1) w2 w5) := Below.grown (HBW6.out.alloc (by omega) _).drew hgrow (by simp; omega) (fun k' hk' => by have := own_block_ge HO6.out k' hk'; omega); have hs5 : (w.heap.size + 1 + 1 + 1) + 1 ≤ w5.heap.size := (by have := hgrow.size; simp at this; omega); have HO5 : Hid (w5.ownsRow ((w.heap.size + 1 + 1 + 1) + 1) 89 2 v' ((comesOf ea (eb.take k)).length + 1) (entCells (comesOf ea (eb.take k)) ++ [.string st, .string fl])) := hown; have q0 := HD5.out.c1; have q1 := HD5.out.fz 1; have q2 := (HB5.out.cell (p := ⟨w.heap.size + 1, 1, none⟩) (by simp <;> omega)).trans C3.out; have q3 := ((HB2.out.trans (HB5.out.mono (by omega))).cell (p := ⟨b, off + k * 2, none⟩) hbw).trans X0.out; have q4 := ((HB2.out.trans (HB5.out.mono (by omega))).cell (p := ⟨b, off + k * 2 + 1, none⟩) hbw).trans X1.out; clear hgrow hnil; obtain ⟨ag, cg, rfl⟩ := owns_form hown; clear hown))
                all_goals
                  go_wp2
                  go_roundw
                  case rel =>
                    refine ⟨k + 1, ag, cg, by omega, by go_num, ?_, owns_set HOG5.out _ _ _ (by omega), ?_, HB5.out.setCell (Nat.le_refl _) _, by rw [Go.Deep.nblk_setCell]; exact hs5⟩
                    · rw [HCF.out, List.length_append]
                      exact HD5.out.set1 _
                    · rw [HCF.out, List.length_append, entCells_append]
                      exact owns_set HO5.out _ _ _ (by omega)
                  case measure => simp [intOf]; omega
              | true =>
                obtain ⟨p, hp1, hp2, hp3⟩ := found_place st ea HAA.out hth
                have hpl : placeT ea st < ea.length := (List.getElem?_eq_some_iff.1 hp1).1
                have hee : entIn ea (st, fl) = entEq p (st, fl) := entIn_at (List.mem_of_getElem? hp1) hp2 hp3
                obtain ⟨b', off', cap'', p', hv', hbw', hx', _, y0, y1⟩ := HE.out.at hpl
                cases hv'
                rw [hp1] at hx'
                cases hx'
                obtain ⟨P, hP⟩ : ∃ P, placeT ea st = P := ⟨_, rfl⟩
                rw [hP] at hpl y0 y1 ⊢
                have y2 := (HW4.out.cell (p := ⟨b', off' + P * 2, none⟩) hbw').trans y0
                have y3 := (HW4.out.cell (p := ⟨b', off' + P * 2 + 1, none⟩) hbw').trans y1
                obtain ⟨pst, pfl⟩ := p
                simp only at y2 y3
                have j2 : (0 : Int) ≤ (P : Int) := by omega
                have j3 : (P : Int) < (ea.length : Int) := by omega
                have HEE : Hid (entIn ea (st, fl) = entEq (pst, pfl) (st, fl)) := hee
                clear hp1 hp2 hp3 hee hP y0 y1
                cases hq : entEq (pst, pfl) (st, fl) with
                | true =>
                  have HCF : Hid (comesOf ea (eb.take (k + 1)) = (comesOf ea (eb.take k))) := by show comesOf _ _ = _; rw [HG2.out]; simp [comesF, HEE.out, hq]
                  go_wp2_with fail
                  go_quiet (fail)
                  have hq6 : Below w4.heap.size w4 (w4.drewN nq) := below_drewN70 (Below.refl _ _) nq
                  generalize w4.drewN nq = w6 at hq6 ⊢
                  go_wp2
                  go_roundw
                  case rel => exact ⟨k + 1, b1, cq1, by omega, by go_num, by rw [HCF.out]; exact HD4.out.below hq6, owns_below HOG4.out hq6, by rw [HCF.out]; exact owns_below HO4.out hq6, HBW.out.trans (hq6.mono (by omega)), by have := hq6.size; omega⟩
                  case measure => simp [intOf]; omega
                | false =>
                  have HCF : Hid (comesOf ea (eb.take (k + 1)) = (comesOf ea (eb.take k)) ++ [(st, fl)]) := by show comesOf _ _ = _; rw [HG2.out]; simp [comesF, HEE.out, hq]
                  go_wp2_with fail
                  go_quiet (fail)
                  have hq6 : Below w4.heap.size w4 (w4.drewN nq) := below_drewN70 (Below.refl _ _) nq
                  generalize w4.drewN nq = w6 at hq6 ⊢
                  clear y2 y3
                  have HD6 : Hid (DRow w6 (w.heap.size + 1 + 1 + 1) (.slice b0 GS.length cq0) (.slice b1 (comesOf ea (eb.take k)).length cq1) false (.slice none 0 0)) := HD4.out.below hq6
                  have HOG6 : Hid (w6.ownsRow ((w.heap.size + 1 + 1 + 1) + 1) 9 1 (.slice b0 GS.length cq0) GS.length (texts GS)) := owns_below HOG4.out hq6
                  have HO6 : Hid (w6.ownsRow ((w.heap.size + 1 + 1 + 1) + 1) 89 2 (.slice b1 (comesOf ea (eb.take k)).length cq1) (comesOf ea (eb.take k)).length (entCells (comesOf ea (eb.take k)))) := owns_below HO4.out hq6
                  have HBW6 : Hid (Below (w.heap.size + 1 + 1 + 1) w2 w6) := HBW.out.trans (hq6.mono (by omega))
                  have hz6 : w4.heap.size ≤ w6.heap.size := hq6.size
                  have d6 := (HBW6.out.cell (p := ⟨w.heap.size + 1, 1, none⟩) (by simp <;> omega)).trans C3.out
                  have e6 := ((HB2.out.trans (HBW6.out.mono (by omega))).cell (p := ⟨b, off + k * 2, none⟩) hbw).trans X0.out
                  have e7 := ((HB2.out.trans (HBW6.out.mono (by omega))).cell (p := ⟨b, off + k * 2 + 1, none⟩) hbw).trans X1.out
                  have g0 := HD6.out.c1
                  clear hq6 d4 d5 e4 e5
                  have hbl6 : b < w6.heap.size := by omega
                  have hbd : b ≠ w.heap.size + 1 + 1 + 1 := by omega
                  have hwd : w.heap.size + 1 ≠ w.heap.size + 1 + 1 + 1 := by omega
                  have hwl : w.heap.size + 1 < w6.heap.size := by omega
                  have hdl : w.heap.size + 1 + 1 + 1 < w6.heap.size := by omega
                  go_wp2_with fail
                  go_region_law ((refine step_append_own rfl (.tmp 89) (.tmp 95) 32 rfl ((w.heap.size + 1 + 1 + 1) + 1) 89 i4 (.agg #[.string ⟨#[]⟩, .string ⟨#[]⟩]) 2 32 Tryz.underlying32 hi4 hz4' hs4 hb4' rfl (by decide) _ _ _ rfl (by exact HO6.out.alloc _) ⟨_, 0, none⟩ 1 1 [.string st, .string fl] rfl rfl (by exact news_cells (cs := #[.string st, .string fl]) (heap_alloc_last _ _)) (by simp [Value.oneCell']) (by unfold maxLen; omega) (by omega) (by simp; omega) ?_; intro v' w5 hown hgrow hnil; have HD5 : Hid (DRow w5 (w.heap.size + 1 + 1 + 1) (.slice b0 GS.length cq0) (.slice b1 (comesOf ea (eb.take k)).length cq1) false (.slice none 0 0)) := DRow.grown (by exact HD6.out.alloc _) hgrow (owns_ne HO6.out (by omega)); have HOG5 : Hid (w5.ownsRow ((w.heap.size + 1 + 1 + 1) + 1) 9 1 (.slice b0 GS.length cq0) GS.length (texts GS)) := World.ownsRow.kept (by exact HOG6.out.alloc _) hgrow (rows_apart HOG6.out HO6.out (by decide)); have HB5 : Hid (Below (w.heap.size + 1 + 1 + 1) w2 w5) := Below.grown (HBW6.out.alloc (by omega) _).drew hgrow (by simp; omega) (fun k' hk' => by have := own_block_ge HO6.out k' hk'; omega); have hs5 : (w.heap.size + 1 + 1 + 1) + 1 ≤ w5.heap.size := (by have := hgrow.size; simp at this; omega); have HO5 : Hid (w5.ownsRow ((w.heap.size + 1 + 1 + 1) + 1) 89 2 v' ((comesOf ea (eb.take k)).length + 1) (entCells (comesOf ea (eb.take k)) ++ [.string st, .string fl])) := hown; have q0 := HD5.out.c1; have q1 := HD5.out.fz 1; have q2 := (HB5.out.cell (p := ⟨w.heap.size + 1, 1, none⟩) (by simp <;> omega)).trans C3.out; have q3 := ((HB2.out.trans (HB5.out.mono (by omega))).cell (p := ⟨b, off + k * 2, none⟩) hbw).trans X0.out; have q4 := ((HB2.out.trans (HB5.out.mono (by omega))).cell (p := ⟨b, off + k * 2 + 1, none⟩) hbw).trans X1.out; clear hgrow hnil; obtain ⟨ag, cg, rfl⟩ := owns_form hown; clear hown))
                  all_goals
                    go_wp2
                    go_roundw
                    case rel =>
                      refine ⟨k + 1, ag, cg, by omega, by go_num, ?_, owns_set HOG5.out _ _ _ (by omega), ?_, HB5.out.setCell (Nat.le_refl _) _, by rw [Go.Deep.nblk_setCell]; exact hs5⟩
                      · rw [HCF.out, List.length_append]
                        exact HD5.out.set1 _
                      · rw [HCF.out, List.length_append, entCells_append]
                        exact owns_set HO5.out _ _ _ (by omega)
                    case measure => simp [intOf]; omega
            · have hke : k = eb.length := by omega
              subst hke
              have hG : comesOf ea (eb.take eb.length) = comesOf ea eb := by rw [List.take_length]
              have HO1 : Hid (wr.ownsRow ((w.heap.size + 1 + 1 + 1) + 1) 89 2 (.slice b1 (comesOf ea eb).length cq1) (comesOf ea eb).length (entCells (comesOf ea eb))) := by have := HO.out; rw [hG] at this; exact this
              have HDR1 : Hid (DRow wr (w.heap.size + 1 + 1 + 1) (.slice b0 GS.length cq0) (.slice b1 (comesOf ea eb).length cq1) false (.slice none 0 0)) := by have := HDR.out; rw [hG] at this; exact this
              clear hG HO hlt hk HDR
              generalize comesOf ea eb = CS at *
              have d0 := (HB.out.cell (p := ⟨w.heap.size, 0, none⟩) (by simp <;> omega)).trans C0.out
              have d2 := (HB.out.cell (p := ⟨w.heap.size + 1, 0, none⟩) (by simp <;> omega)).trans C2.out
              have HRR : Hid (DRow wr (w.heap.size + 1 + 1) (.slice none 0 0) (.slice none 0 0) false (.slice none 0 0)) := World.rowIs.of_block HR2.out (HB.out.block _ (by omega))
              go_wp2_with fail
              refine (l5Affixes_any _ _ _ xa xb (HA.out.below HBw.out) (HA'.out.below HBw.out)).mono ?_
              rintro e w4 ⟨rfl, hb4⟩
              have HD4 : Hid (DRow w4 (w.heap.size + 1 + 1 + 1) (.slice b0 GS.length cq0) (.slice b1 CS.length cq1) false (.slice none 0 0)) := HDR1.out.below hb4
              have HR4 : Hid (DRow w4 (w.heap.size + 1 + 1) (.slice none 0 0) (.slice none 0 0) false (.slice none 0 0)) := HRR.out.below hb4
              have HB4 : Hid (Below (w.heap.size + 1 + 1 + 1) w2 w4) := HB.out.trans (hb4.mono (by omega))
              have HW4 : Hid (Below w.heap.size w w4) := HB2.out.trans (HB4.out.mono (by omega))
              have HRW4 : Hid (DRows ((w.heap.size + 1 + 1 + 1) + 1) w4 (.slice b0 GS.length cq0) (.slice b1 CS.length cq1) (.slice none 0 0) GS CS []) := ⟨owns_below HOG.out hb4, owns_below HO1.out hb4, World.ownsRow_nil _ _ _ _⟩
              have d4 := (hb4.cell (p := ⟨w.heap.size + 1, 0, none⟩) (show w.heap.size + 1 < wr.heap.size by omega)).trans d2
              have hs4z : (w.heap.size + 1 + 1 + 1) + 1 ≤ w4.heap.size := Nat.le_trans hsz hb4.size
              clear hb4 d0 d2 d1 d3
              cases hq : affsEq xa xb with
              | true =>
                have HDD : Hid (dofT xa ea xb eb = (GS, CS, false, [])) := by show dofT _ _ _ _ = _; rw [HD.out, hq]; rfl
                have g0 := HD4.out.c0
                have g1 := HD4.out.c1
                have g2 := HD4.out.c2
                have g3 := HD4.out.c3
                have r0 := HR4.out.c0
                have r1 := HR4.out.c1
                have r2 := HR4.out.c2
                have r3 := HR4.out.c3
                have f0 := HR4.out.fz 0
                have f1 := HR4.out.fz 1
                have f2 := HR4.out.fz 2
                have f3 := HR4.out.fz 3
                go_wp2
                have HF := (((HR4.out.set0 (.slice b0 GS.length cq0)).set1 (.slice b1 CS.length cq1)).set2 false).set3 (.slice none 0 0)
                have q0 := HF.c0
                have q1 := HF.c1
                have q2 := HF.c2
                have q3 := HF.c3
                refine bodyPost_ret (v := .agg #[.slice b0 GS.length cq0, .slice b1 CS.length cq1, .bool false, .slice none 0 0]) (by simp [results, Tryz.results45, go_sem, q0, q1, q2, q3]) rfl ⟨_, rfl, ?_, ?_⟩
                · rw [HDD.out]
                  have h := ((((HRW4.out.set (w.heap.size + 1 + 1) 0 (.slice b0 GS.length cq0) (by omega)).set (w.heap.size + 1 + 1) 1 (.slice b1 CS.length cq1) (by omega)).set (w.heap.size + 1 + 1) 2 (.bool false) (by omega)).set (w.heap.size + 1 + 1) 3 (.slice none 0 0) (by omega))
                  exact DeltaOwn.low148 (h.own false HGS.out HCS.out (fun i x hx => by simp at hx)) (by omega)
                · exact (((HW4.out.setCell (by simp <;> omega) _).setCell (by simp <;> omega) _).setCell (by simp <;> omega) _).setCell (by simp <;> omega) _
              | false =>
                have HDD : Hid (dofT xa ea xb eb = (GS, CS, true, xb)) := by show dofT _ _ _ _ = _; rw [HD.out, hq]; rfl
                have hne5 : w.heap.size + 1 + 1 ≠ w.heap.size + 1 + 1 + 1 := by omega
                have HS0 : Hid (DRow (w4.setCell ⟨(w.heap.size + 1 + 1 + 1), 2, none⟩ (.bool true)) (w.heap.size + 1 + 1 + 1) (.slice b0 GS.length cq0) (.slice b1 CS.length cq1) true (.slice none 0 0)) := HD4.out.set2 true
                have HS1 : Hid (DRow (w4.setCell ⟨(w.heap.size + 1 + 1 + 1), 2, none⟩ (.bool true)) (w.heap.size + 1 + 1) (.slice none 0 0) (.slice none 0 0) false (.slice none 0 0)) := HR4.out.other hne5 _
                have HS2 : Hid (DRows ((w.heap.size + 1 + 1 + 1) + 1) (w4.setCell ⟨(w.heap.size + 1 + 1 + 1), 2, none⟩ (.bool true)) (.slice b0 GS.length cq0) (.slice b1 CS.length cq1) (.slice none 0 0) GS CS []) := HRW4.out.set (w.heap.size + 1 + 1 + 1) 2 (.bool true) (by omega)
                have HS3 : Hid (Below w.heap.size w (w4.setCell ⟨(w.heap.size + 1 + 1 + 1), 2, none⟩ (.bool true))) := HW4.out.setCell (by simp <;> omega) _
                have HAX : Hid (AffsAt (w4.setCell ⟨(w.heap.size + 1 + 1 + 1), 2, none⟩ (.bool true)) (.slice a2 xb.length cap2) xb) := HA'.out.below HS3.out
                have hz7 : w.heap.size + 1 + 1 + 1 < w4.heap.size := by omega
                have hz7a : w.heap.size + 1 < w4.heap.size := by omega
                have hz7b : w.heap.size + 1 + 1 < w4.heap.size := by omega
                have HSZ : Hid ((w4.setCell ⟨(w.heap.size + 1 + 1 + 1), 2, none⟩ (.bool true)).heap.size = w4.heap.size) := Go.Deep.nblk_setCell _ _ _
                have HFX : Hid (∀ (i : Nat) (x : Aff), xb[i]? = some x → x.fits) := HA'.out.fit
                by_cases h0 : xb = []
                · subst h0
                  have hl0 : ([] : List Aff).length = 0 := rfl
                  rw [hl0]
                  cases a2 with
                  | none =>
                    have g0 := HD4.out.c0
                    have g1 := HD4.out.c1
                    have g2 := HD4.out.c2
                    have g3 := HD4.out.c3
                    have t2 := HD4.out.fz 2
                    have t3 := HD4.out.fz 3
                    have r0 := HR4.out.c0
                    have f0 := HR4.out.fz 0
                    have r1 := HR4.out.c1
                    have f1 := HR4.out.fz 1
                    have r2 := HR4.out.c2
                    have f2 := HR4.out.fz 2
                    have r3 := HR4.out.c3
                    have f3 := HR4.out.fz 3
                    go_wp2
                    have HK := HS1.out.other (p := ⟨(w.heap.size + 1 + 1 + 1), 3, none⟩) hne5 (.slice (some ⟨w4.heap.size, 0, none⟩) 0 0)
                    have HF := ((((HK.set0 (.slice b0 GS.length cq0)).set1 (.slice b1 CS.length cq1)).set2 true).set3 (.slice (some ⟨w4.heap.size, 0, none⟩) 0 0)).alloc (.cells #[] 87)
                    have q0 := HF.c0
                    have q1 := HF.c1
                    have q2 := HF.c2
                    have q3 := HF.c3
                    refine bodyPost_ret (v := .agg #[.slice b0 GS.length cq0, .slice b1 CS.length cq1, .bool true, .slice (some ⟨w4.heap.size, 0, none⟩) 0 0]) (by simp [results, Tryz.results45, go_sem, q0, q1, q2, q3]) rfl ⟨_, rfl, ?_, ?_⟩
                    · rw [HDD.out]
                      have h := ((((HS2.out.set (w.heap.size + 1 + 1 + 1) 3 (.slice (some ⟨w4.heap.size, 0, none⟩) 0 0) (by omega)).set (w.heap.size + 1 + 1) 0 (.slice b0 GS.length cq0) (by omega)).set (w.heap.size + 1 + 1) 1 (.slice b1 CS.length cq1) (by omega)).set (w.heap.size + 1 + 1) 2 (.bool true) (by omega)).set (w.heap.size + 1 + 1) 3 (.slice (some ⟨w4.heap.size, 0, none⟩) 0 0) (by omega)
                      have h2 : DRows ((w.heap.size + 1 + 1 + 1) + 1) _ (.slice b0 GS.length cq0) (.slice b1 CS.length cq1) (.slice (some ⟨w4.heap.size, 0, none⟩) 0 0) GS CS [] := ⟨h.1.alloc (.cells #[] 87), h.2.1.alloc (.cells #[] 87), alone_alloc (by simp only [Go.Deep.nblk_setCell]) 87 5 (by omega)⟩
                      exact DeltaOwn.low148 (h2.own true HGS.out HCS.out (fun i x hx => by simp at hx)) (by omega)
                    · exact (((((HS3.out.setCell (p := ⟨(w.heap.size + 1 + 1 + 1), 3, none⟩) (by simp <;> omega) (.slice (some ⟨w4.heap.size, 0, none⟩) 0 0)).setCell (p := ⟨(w.heap.size + 1 + 1), 0, none⟩) (by simp <;> omega) (.slice b0 GS.length cq0)).setCell (p := ⟨(w.heap.size + 1 + 1), 1, none⟩) (by simp <;> omega) (.slice b1 CS.length cq1)).setCell (p := ⟨(w.heap.size + 1 + 1), 2, none⟩) (by simp <;> omega) (.bool true)).setCell (p := ⟨(w.heap.size + 1 + 1), 3, none⟩) (by simp <;> omega) (.slice (some ⟨w4.heap.size, 0, none⟩) 0 0)).alloc (by simp only [Go.Deep.nblk_setCell]; omega) _
                  | some ad2 =>
                    have g0 := HD4.out.c0
                    have g1 := HD4.out.c1
                    have g2 := HD4.out.c2
                    have g3 := HD4.out.c3
                    have t2 := HD4.out.fz 2
                    have t3 := HD4.out.fz 3
                    have r0 := HR4.out.c0
                    have f0 := HR4.out.fz 0
                    have r1 := HR4.out.c1
                    have f1 := HR4.out.fz 1
                    have r2 := HR4.out.c2
                    have f2 := HR4.out.fz 2
                    have r3 := HR4.out.c3
                    have f3 := HR4.out.fz 3
                    go_wp2
                    have HK := HS1.out.other (p := ⟨(w.heap.size + 1 + 1 + 1), 3, none⟩) hne5 (.slice (some ⟨w4.heap.size, 0, none⟩) 0 0)
                    have HF := ((((HK.set0 (.slice b0 GS.length cq0)).set1 (.slice b1 CS.length cq1)).set2 true).set3 (.slice (some ⟨w4.heap.size, 0, none⟩) 0 0)).alloc (.cells #[] 87)
                    have q0 := HF.c0
                    have q1 := HF.c1
                    have q2 := HF.c2
                    have q3 := HF.c3
                    refine bodyPost_ret (v := .agg #[.slice b0 GS.length cq0, .slice b1 CS.length cq1, .bool true, .slice (some ⟨w4.heap.size, 0, none⟩) 0 0]) (by simp [results, Tryz.results45, go_sem, q0, q1, q2, q3]) rfl ⟨_, rfl, ?_, ?_⟩
                    · rw [HDD.out]
                      have h := ((((HS2.out.set (w.heap.size + 1 + 1 + 1) 3 (.slice (some ⟨w4.heap.size, 0, none⟩) 0 0) (by omega)).set (w.heap.size + 1 + 1) 0 (.slice b0 GS.length cq0) (by omega)).set (w.heap.size + 1 + 1) 1 (.slice b1 CS.length cq1) (by omega)).set (w.heap.size + 1 + 1) 2 (.bool true) (by omega)).set (w.heap.size + 1 + 1) 3 (.slice (some ⟨w4.heap.size, 0, none⟩) 0 0) (by omega)
                      have h2 : DRows ((w.heap.size + 1 + 1 + 1) + 1) _ (.slice b0 GS.length cq0) (.slice b1 CS.length cq1) (.slice (some ⟨w4.heap.size, 0, none⟩) 0 0) GS CS [] := ⟨h.1.alloc (.cells #[] 87), h.2.1.alloc (.cells #[] 87), alone_alloc (by simp only [Go.Deep.nblk_setCell]) 87 5 (by omega)⟩
                      exact DeltaOwn.low148 (h2.own true HGS.out HCS.out (fun i x hx => by simp at hx)) (by omega)
                    · exact (((((HS3.out.setCell (p := ⟨(w.heap.size + 1 + 1 + 1), 3, none⟩) (by simp <;> omega) (.slice (some ⟨w4.heap.size, 0, none⟩) 0 0)).setCell (p := ⟨(w.heap.size + 1 + 1), 0, none⟩) (by simp <;> omega) (.slice b0 GS.length cq0)).setCell (p := ⟨(w.heap.size + 1 + 1), 1, none⟩) (by simp <;> omega) (.slice b1 CS.length cq1)).setCell (p := ⟨(w.heap.size + 1 + 1), 2, none⟩) (by simp <;> omega) (.bool true)).setCell (p := ⟨(w.heap.size + 1 + 1), 3, none⟩) (by simp <;> omega) (.slice (some ⟨w4.heap.size, 0, none⟩) 0 0)).alloc (by simp only [Go.Deep.nblk_setCell]; omega) _
                · obtain ⟨b', off', cap'', x', hv', _, _, _, _⟩ := HAX.out.at (k := 0) (by cases xb with | nil => exact absurd rfl h0 | cons _ _ => simp)
                  cases hv'
                  have g0 := HD4.out.c0
                  have g1 := HD4.out.c1
                  have g2 := HD4.out.c2
                  have g3 := HD4.out.c3
                  have t2 := HD4.out.fz 2
                  have t3 := HD4.out.fz 3
                  have r0 := HR4.out.c0
                  have f0 := HR4.out.fz 0
                  have r1 := HR4.out.c1
                  have f1 := HR4.out.fz 1
                  have r2 := HR4.out.c2
                  have f2 := HR4.out.fz 2
                  have r3 := HR4.out.c3
                  have f3 := HR4.out.fz 3
                  have HOW : Hid (((w4.setCell ⟨(w.heap.size + 1 + 1 + 1), 2, none⟩ (.bool true)).alloc (.cells #[] 87)).ownsRow ((w.heap.size + 1 + 1 + 1) + 1) 87 5 (.slice (some ⟨w4.heap.size, 0, none⟩) 0 0) 0 []) := owns_alone (by have h := heap_alloc_last (w4.setCell ⟨(w.heap.size + 1 + 1 + 1), 2, none⟩ (.bool true)) (.cells #[] 87); rw [HSZ.out] at h; exact h) (by omega)
                  have HNW : Hid (AffsAt ((w4.setCell ⟨(w.heap.size + 1 + 1 + 1), 2, none⟩ (.bool true)).alloc (.cells #[] 87)) (.slice (some ⟨b', off', none⟩) xb.length cap2) xb) := HAX.out.below ((Below.refl _ _).alloc (Nat.le_refl _) _)
                  have hw4s : (((w4.setCell ⟨(w.heap.size + 1 + 1 + 1), 2, none⟩ (.bool true)).alloc (.cells #[] 87))).heap.size = w4.heap.size + 1 := by rw [World.size_alloc, HSZ.out]
                  go_wp2_with (at_builtin; refine wpList_append_own _ rfl _ _ 33 rfl ((w.heap.size + 1 + 1 + 1) + 1) 87 i5 (.agg #[.string ⟨#[]⟩, .bool false, .string ⟨#[]⟩, .string ⟨#[]⟩, .string ⟨#[]⟩]) 5 72 Tryz.underlying33 hi5 hz5 hs5 hb5 rfl (by decide) (.slice (some ⟨w4.heap.size, 0, none⟩) 0 0) 0 [] rfl HOW.out ⟨b', off', none⟩ xb.length cap2 (affCells xb) rfl (affCells_length xb) (news_affs HNW.out) (affCells_one' xb) (by unfold maxLen; omega) (by omega) (by rw [hw4s]; omega) ?_; intro v' w5 hown hgrow hnil; rw [Nat.zero_add, List.nil_append] at hown; have HRo : Hid (DRow w5 (w.heap.size + 1 + 1) (.slice none 0 0) (.slice none 0 0) false (.slice none 0 0)) := (HS1.out.alloc _).grown hgrow (owns_ne HOW.out (by omega)); have HDo : Hid (DRow w5 (w.heap.size + 1 + 1 + 1) (.slice b0 GS.length cq0) (.slice b1 CS.length cq1) true (.slice none 0 0)) := (HS0.out.alloc _).grown hgrow (owns_ne HOW.out (by omega)); have HRWo : Hid (DRows ((w.heap.size + 1 + 1 + 1) + 1) w5 (.slice b0 GS.length cq0) (.slice b1 CS.length cq1) v' GS CS xb) := ⟨(HS2.out.1.alloc _).kept hgrow (rows_apart (HS2.out.1.alloc _) HOW.out (by decide)), (HS2.out.2.1.alloc _).kept hgrow (rows_apart (HS2.out.2.1.alloc _) HOW.out (by decide)), hown⟩; have HBo : Hid (Below w.heap.size w w5) := Below.grown (HS3.out.alloc HS3.out.size _) hgrow (by rw [hw4s]; omega) (fun k' hk' => by have := own_block_ge HOW.out k' hk'; omega); clear g0 g1 g2 g3 t2 t3 r0 r1 r2 r3 f0 f1 f2 f3 hgrow hnil; obtain ⟨ag, cg, rfl⟩ := owns_form hown; clear hown; have g0 := HDo.out.c0; have g1 := HDo.out.c1; have g2 := HDo.out.c2; have g3 := HDo.out.c3; have t3 := HDo.out.fz 3; have r0 := HRo.out.c0; have r1 := HRo.out.c1; have r2 := HRo.out.c2; have r3 := HRo.out.c3; have f0 := HRo.out.fz 0; have f1 := HRo.out.fz 1; have f2 := HRo.out.fz 2; have f3 := HRo.out.fz 3)
                  have HK : DRow (w5.setCell ⟨(w.heap.size + 1 + 1 + 1), 3, none⟩ (.slice ag xb.length cg)) (w.heap.size + 1 + 1) (.slice none 0 0) (.slice none 0 0) false (.slice none 0 0) := HRo.out.other hne5 _
                  have HKR := HRWo.out.set (w.heap.size + 1 + 1 + 1) 3 (.slice ag xb.length cg) (by omega)
                  have HKB := HBo.out.setCell (p := ⟨(w.heap.size + 1 + 1 + 1), 3, none⟩) (by simp <;> omega) (.slice ag xb.length cg)
                  have HF := ((((HK).set0 (.slice b0 GS.length cq0)).set1 (.slice b1 CS.length cq1)).set2 true).set3 (.slice ag xb.length cg)
                  have q0 := HF.c0
                  have q1 := HF.c1
                  have q2 := HF.c2
                  have q3 := HF.c3
                  refine bodyPost_ret (v := .agg #[.slice b0 GS.length cq0, .slice b1 CS.length cq1, .bool true, .slice ag xb.length cg]) (by simp [results, Tryz.results45, go_sem, q0, q1, q2, q3]) rfl ⟨_, rfl, ?_, ?_⟩
                  · rw [HDD.out]
                    have h := ((((HKR).set (w.heap.size + 1 + 1) 0 (.slice b0 GS.length cq0) (by omega)).set (w.heap.size + 1 + 1) 1 (.slice b1 CS.length cq1) (by omega)).set (w.heap.size + 1 + 1) 2 (.bool true) (by omega)).set (w.heap.size + 1 + 1) 3 (.slice ag xb.length cg) (by omega)
                    exact DeltaOwn.low148 (h.own true HGS.out HCS.out HFX.out) (by omega)
                  · exact ((((HKB).setCell (by simp <;> omega) _).setCell (by simp <;> omega) _).setCell (by simp <;> omega) _).setCell (by simp <;> omega) _
theorem dofT_small (xa : List Aff) (ea : List (ByteArray × ByteArray)) (xb : List Aff) (eb : List (ByteArray × ByteArray)) : DeltaSm (dofT xa ea xb eb) := by
  unfold dofT
  split
  · next h =>
    rw [Bool.and_eq_true] at h
    have h1 := (entsT_asc (bookT_parts h.1).2).2
    have h2 := (entsT_asc (bookT_parts h.2).2).2
    have h3 := affsT_len (bookT_parts h.2).1
    refine ⟨?_, ?_, ?_⟩
    · have := goes_len ea eb ea.length
      rw [List.take_length] at this
      show (goesOf ea eb).length ≤ _
      omega
    · have := comes_len ea eb eb.length
      rw [List.take_length] at this
      show (comesOf ea eb).length ≤ _
      omega
    · show (if affsEq xa xb = true then ([] : List Aff) else xb).length ≤ _
      split
      · simp
      · omega
  · exact ⟨by simp, by simp, by simp⟩
end Go.Proofs.YtkepmjebnkcbgaaGreatDoor
