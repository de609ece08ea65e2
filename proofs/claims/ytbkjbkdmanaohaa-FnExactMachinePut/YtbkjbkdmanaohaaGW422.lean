/-
  impl.stateBytes.
-/
import Derived.Test.YtbkjbkdmanaohaaGW54
import Derived.Test.YtbkjbkdmanaohaaW420
import Derived.Test.YtbkjbkdmanaohaaW189
import Derived.Test.YtbkjbkdmanaohaaGM47
namespace Go.Proofs.Ytbkjbkdmanaohaa
open Go.RowKit
set_option linter.unusedVariables false
set_option maxRecDepth 100000 in
set_option maxHeartbeats 8000000 in
theorem stateBytes_any (w : World) (st : Sta) (ev : Value) (p n : Nat) (h : EdgesIn 0 w ev st.es) (hok : edsOk (p + 1) n st.es = true) (hn : n ≤ 400) :
    Calls Try.prog 45 #[.agg #[.bool st.ends, ev], .int .i64 p] w fun e w' => e = .returned (.string (bsT (stL p st))) ∧ Below w.heap.size w w' := by
  obtain ⟨en, es⟩ := st
  simp only at h hok
  obtain ⟨a, cap, rfl, hc, hm⟩ := h.form
  have HS : Hid (EdgesIn 0 w (.slice a es.length cap) es) := h
  have HO : Hid (edsOk (p + 1) n es = true) := hok
  have hl26 := eds_len hok
  have HR : Hid (stL p ⟨en, es⟩ = nbL (headN ⟨en, es⟩) ++ edsL p es) := rfl
  obtain ⟨hd, hhd⟩ : ∃ x, headN ⟨en, es⟩ = x := ⟨_, rfl⟩
  have hhd2 : hd = 2 * es.length + (if en then 1 else 0) := by rw [← hhd]; rfl
  rw [hhd] at HR
  have hhd3 : hd ≤ 100 := by rw [hhd2]; split <;> omega
  clear h hok hhd
  unfold maxLen at hm
  have HX : Hid (Below w.heap.size w (w.alloc (.cells #[.bool en, .slice a es.length cap] 49))) := (Below.refl _ _).alloc (Nat.le_refl _) _
  cases en with
  | true =>
    have hi0 : 2 * (es.length : Int) + 1 = (hd : Int) := by simp at hhd2; omega
    clear hhd2
    go_enter Try.func45, Try.ntmps45
    go_wp2_with fail
    refine (numberBytes_any hd (by omega) _).mono ?_
    rintro e w1 ⟨rfl, hb1⟩
    have HB1 : Hid (Below w.heap.size w w1) := HX.out.trans (hb1.mono HX.out.size)
    have s1 : w1.cell? ⟨w.heap.size, 1, none⟩ = some (.slice a es.length cap) := (hb1.cell (p := ⟨w.heap.size, 1, none⟩) (by simp)).trans (by simp [go_sem])
    clear hb1
    go_wp2_with fail
    go_loopw [6, 22] (fun x i wr => ∃ (k : Nat), k ≤ es.length ∧ i = .int .i64 k ∧ x = .string (bsT (nbL hd ++ edsL p (es.take k))) ∧ Below w.heap.size w wr) (fun _ i _ => es.length - (intOf i).toNat)
    case atStart => exact ⟨0, Nat.zero_le _, rfl, by simp [edsL], HB1.out⟩
    case round =>
      clear s1
      obtain ⟨k, hk, rfl, rfl, hb⟩ := hrel
      have HB : Hid (Below w.heap.size w wr) := hb
      clear hb
      obtain ⟨X, hX⟩ : ∃ X, bsT (nbL hd ++ edsL p (es.take k)) = X := ⟨_, rfl⟩
      have HXT : Hid (bsT (nbL hd ++ edsL p (es.take k)) = X) := hX
      have hXs : X.size ≤ 100 := by rw [← hX, bsT_size, List.length_append]; have h1 := nbL_len hd; have h2 := edsL_len p (es.take k); rw [List.length_take] at h2; omega
      rw [hX]
      clear hX
      by_cases hlt : k < es.length
      · obtain ⟨b2, off2, cap2, ed, hv2, _, _, hbl2, hed, d1, d2⟩ := (HS.out.below HB.out).at hlt
        cases hv2
        have hb4 := edsOk_at HO.out hed
        obtain ⟨l, t⟩ := ed
        simp only at d1 d2 hb4
        obtain ⟨q, rfl⟩ : ∃ q : Nat, t = (q : Int) := ⟨t.toNat, by omega⟩
        obtain ⟨nd, hnd⟩ : ∃ nd, q - p = nd := ⟨_, rfl⟩
        have hnd2 : IntKind.i64.wrap ((q : Int) - (p : Int)) = (nd : Int) := by rw [show (q : Int) - (p : Int) = (nd : Int) by omega]; exact IntWalk.i64_in _ (by omega)
        have hnd3 : nd ≤ 400 := by omega
        have HE2 : Hid (edsL p (es.take (k + 1)) = edsL p (es.take k) ++ (UInt8.ofNat l.toNat :: nbL nd)) := by show _ = _; rw [edsL_take hed]; unfold edL; rw [Int.toNat_natCast, hnd]
        have h8 : IntKind.u8.wrap l = l := by simp only [IntKind.wrap, IntKind.signed, IntKind.bits]; simp; omega
        obtain ⟨LB, hLB⟩ : ∃ x, bsT [UInt8.ofNat l.toNat] = x := ⟨_, rfl⟩
        have HLB : Hid (bsT [UInt8.ofNat l.toNat] = LB) := hLB
        have hLs : LB.size = 1 := by rw [← hLB, bsT_size]; rfl
        obtain ⟨NB, hNB⟩ : ∃ x, bsT (nbL nd) = x := ⟨_, rfl⟩
        have HNB : Hid (bsT (nbL nd) = NB) := hNB
        have hNs : NB.size ≤ 2 := by rw [← hNB, bsT_size]; exact nbL_len nd
        obtain ⟨U, hU⟩ : ∃ x, LB ++ NB = x := ⟨_, rfl⟩
        have hUs : U.size ≤ 3 := by rw [← hU, ByteArray.size_append]; omega
        obtain ⟨Y, hY⟩ : ∃ x, X ++ U = x := ⟨_, rfl⟩
        have HY : Hid (bsT (nbL hd ++ edsL p (es.take (k + 1))) = Y) := by show _ = _; rw [← hY, ← hU, ← hLB, ← hNB, ← HXT.out, bsT_app, bsT_app, HE2.out]; simp
        have r1 : ∀ w : World, (Op.stringOp .add LB NB).run Try.prog w = .ok (.string U) w := fun w => by rw [run_string_add_sum w _ _ (by omega), hU]
        have r2 : ∀ w : World, (Op.stringOp .add X U).run Try.prog w = .ok (.string Y) w := fun w => by rw [run_string_add_sum w _ _ (by omega), hY]
        clear hLB hNB hU hY hed hnd
        go_wp2_with fail
        obtain ⟨w0, hw0⟩ : ∃ x, wr.alloc (.cells #[.int .i64 l, .int .i64 (q : Int)] 73) = x := ⟨_, rfl⟩
        have E0 : Hid (Below wr.heap.size wr w0) := by rw [← hw0]; exact (Below.refl _ _).alloc (Nat.le_refl _) _
        have cc0 : w0.cell? ⟨wr.heap.size, 0, none⟩ = some (.int .i64 l) := by rw [← hw0, cell_of_row _ _ 0 _ _ _ (heap_alloc_last wr _)]; rfl
        have cc1 : w0.cell? ⟨wr.heap.size, 1, none⟩ = some (.int .i64 (q : Int)) := by rw [← hw0, cell_of_row _ _ 1 _ _ _ (heap_alloc_last wr _)]; rfl
        have hb0 : wr.heap.size < w0.heap.size := by rw [← hw0]; simp
        have hb1 := hb0
        rw [hw0]
        clear hw0
        refine wp_region_held_drew (S := (fun w' => w'.cell? ⟨wr.heap.size, 0, none⟩ = some (.int .i64 l) ∧ w'.cell? ⟨wr.heap.size, 1, none⟩ = some (.int .i64 (q : Int)))) (by kernel_rfl) ?_ (fun hHeld => ?_)
        · (first | go_keep | ((try dsimp only); go_keep))
        refine wpAnyH_takeD (i := 0) (d := 26) (v := .string X) rfl (by kernel_rfl) (by kernel_rfl) (by kernel_rfl) (fun _ _ _ h => h) (Or.inl ⟨by rfl, by intro w hSw; (try dsimp only at hSw); go_simp⟩) (by assumption) rfl ?_
        simp only [Act.put, List.setIfInBounds_toArray, List.set_cons_zero, List.set_cons_succ]
        refine wpAnyH_takeD (i := 1) (d := 27) (v := .pointer (some ⟨wr.heap.size, 0, none⟩)) rfl (by kernel_rfl) (by kernel_rfl) (by kernel_rfl) (fun _ _ _ h => h) (Or.inl ⟨by rfl, by intro w hSw; (try dsimp only at hSw); go_simp⟩) (by assumption) rfl ?_
        simp only [Act.put, List.setIfInBounds_toArray, List.set_cons_zero, List.set_cons_succ]
        refine wpAnyH_takeD (i := 2) (d := 28) (v := .int .i64 l) rfl (by kernel_rfl) (by kernel_rfl) (by kernel_rfl) (fun _ _ _ h => h) (Or.inl ⟨by rfl, by intro w hSw; (try dsimp only at hSw); go_simp⟩) (by assumption) rfl ?_
        simp only [Act.put, List.setIfInBounds_toArray, List.set_cons_zero, List.set_cons_succ]
        refine wpAnyH_takeD (i := 3) (d := 29) (v := .int .u8 l) rfl (by kernel_rfl) (by kernel_rfl) (by kernel_rfl) (fun _ _ _ h => h) (Or.inl ⟨by rfl, by intro w hSw; (try dsimp only at hSw); go_simp⟩) (by assumption) rfl ?_
        simp only [Act.put, List.setIfInBounds_toArray, List.set_cons_zero, List.set_cons_succ]
        refine wpAnyH_takeD (i := 6) (d := 32) (v := .pointer (some ⟨wr.heap.size, 1, none⟩)) rfl (by kernel_rfl) (by kernel_rfl) (by kernel_rfl) (fun _ _ _ h => h) (Or.inl ⟨by rfl, by intro w hSw; (try dsimp only at hSw); go_simp⟩) (by assumption) rfl ?_
        simp only [Act.put, List.setIfInBounds_toArray, List.set_cons_zero, List.set_cons_succ]
        refine wpAnyH_takeD (i := 7) (d := 33) (v := .int .i64 (q : Int)) rfl (by kernel_rfl) (by kernel_rfl) (by kernel_rfl) (fun _ _ _ h => h) (Or.inl ⟨by rfl, by intro w hSw; (try dsimp only at hSw); go_simp⟩) (by assumption) rfl ?_
        simp only [Act.put, List.setIfInBounds_toArray, List.set_cons_zero, List.set_cons_succ]
        refine wpAnyH_takeD (i := 8) (d := 34) (v := .int .i64 (p : Int)) rfl (by kernel_rfl) (by kernel_rfl) (by kernel_rfl) (fun _ _ _ h => h) (Or.inl ⟨by rfl, by intro w hSw; (try dsimp only at hSw); go_simp⟩) (by assumption) rfl ?_
        simp only [Act.put, List.setIfInBounds_toArray, List.set_cons_zero, List.set_cons_succ]
        refine wpAnyH_takeD (i := 9) (d := 35) (v := .int .i64 (nd : Int)) rfl (by kernel_rfl) (by kernel_rfl) (by kernel_rfl) (fun _ _ _ h => h) (Or.inl ⟨by rfl, by intro w hSw; (try dsimp only at hSw); go_simp⟩) (by assumption) rfl ?_
        simp only [Act.put, List.setIfInBounds_toArray, List.set_cons_zero, List.set_cons_succ]
        obtain ⟨wd, hwd⟩ : ∃ x, World.drew w0 = x := ⟨_, rfl⟩
        have F0 : Hid (Below w0.heap.size w0 wd) := by rw [← hwd]; exact (Below.refl _ _).drew
        rw [hwd]
        clear hwd
        have Z0 : Hid (w0.heap.size ≤ wd.heap.size) := F0.out.size
        have D0 : Hid (Below w0.heap.size w0 wd) := F0.out
        clear F0
        refine wpAnyH_ready (rs := [4, 10]) (by kernel_rfl) (by simp) ?_
        refine AllReadyH.cons rfl (fun K hK => ?_) (AllReadyH.cons rfl (fun K hK => ?_) AllReadyH.nil)
        · skip
          go_simp
          obtain ⟨v1, hw⟩ : ∃ x, wd.alloc (.cells #[.int .u8 l] 5) = x := ⟨_, rfl⟩
          have hD : Below wd.heap.size wd v1 := by rw [← hw]; exact (Below.refl _ _).alloc (Nat.le_refl _) _
          have Z1 : Hid (w0.heap.size ≤ v1.heap.size) := Nat.le_trans Z0.out hD.size
          have D1 : Hid (Below w0.heap.size w0 v1) := D0.out.trans (hD.mono Z0.out)
          obtain ⟨bb, hbb⟩ : ∃ x, wd.heap.size = x := ⟨_, rfl⟩
          have X1 : v1.cell? ⟨bb, 0, none⟩ = some (.int .u8 l) := by rw [← hbb, ← hw, cell_of_row _ _ 0 _ _ _ (heap_alloc_last wd _)]; rfl
          have Y1 : bb < v1.heap.size := by rw [← hbb, ← hw]; simp
          rw [hw, hbb]
          have c1_0 : v1.cell? ⟨wr.heap.size, 0, none⟩ = some (.int .i64 l) := (D1.out.cell (p := ⟨wr.heap.size, 0, none⟩) hb0).trans cc0
          have c1_1 : v1.cell? ⟨wr.heap.size, 1, none⟩ = some (.int .i64 (q : Int)) := (D1.out.cell (p := ⟨wr.heap.size, 1, none⟩) hb1).trans cc1
          clear hw hbb hD
          refine hK.out _ _ ?_ (fun hHeld => ?_)
          · (first | go_keep | ((try dsimp only); go_keep))
          clear hK K
          try simp only [Act.put, List.setIfInBounds_toArray, List.set_cons_zero, List.set_cons_succ]
          refine wpAnyH_ready (rs := [5, 10]) (by kernel_rfl) (by simp) ?_
          refine AllReadyH.cons rfl (fun K hK => ?_) (AllReadyH.cons rfl (fun K hK => ?_) AllReadyH.nil)
          · skip
            have hcv := byte_of_cell (P := Try.prog) Try.underlying61 Try.underlying5 Try.underlying9 X1
            rw [HLB.out] at hcv
            go_simp
            clear hcv
            refine hK.out _ _ ?_ (fun hHeld => ?_)
            · (first | go_keep | ((try dsimp only); go_keep))
            clear hK K
            try simp only [Act.put, List.setIfInBounds_toArray, List.set_cons_zero, List.set_cons_succ]
            refine wpAnyH_ready (rs := [10]) (by kernel_rfl) (by simp) ?_
            refine AllReadyH.cons rfl (fun K hK => ?_) AllReadyH.nil
            go_simp
            go_at_call 44
            refine (numberBytes_any nd (by omega) _).mono ?_
            rintro e v2 ⟨rfl, hb9⟩
            rw [HNB.out]
            have Z2 : Hid (w0.heap.size ≤ v2.heap.size) := Nat.le_trans Z1.out hb9.size
            have D2 : Hid (Below w0.heap.size w0 v2) := D1.out.trans (hb9.mono Z1.out)
            have c2_0 : v2.cell? ⟨wr.heap.size, 0, none⟩ = some (.int .i64 l) := (D2.out.cell (p := ⟨wr.heap.size, 0, none⟩) hb0).trans cc0
            have c2_1 : v2.cell? ⟨wr.heap.size, 1, none⟩ = some (.int .i64 (q : Int)) := (D2.out.cell (p := ⟨wr.heap.size, 1, none⟩) hb1).trans cc1
            clear hb9
            refine hK.out _ _ ?_ (fun hHeld => ?_)
            · (first | go_keep | ((try dsimp only); go_keep))
            clear hK K
            try simp only [Act.put, List.setIfInBounds_toArray, List.set_cons_zero, List.set_cons_succ]
            refine wpAnyH_takeD (i := 11) (d := 37) (v := .string U) rfl (by kernel_rfl) (by kernel_rfl) (by kernel_rfl) (fun _ _ _ h => h) (Or.inl ⟨by rfl, by intro w hSw; (try dsimp only at hSw); go_simp⟩) (by assumption) rfl ?_
            simp only [Act.put, List.setIfInBounds_toArray, List.set_cons_zero, List.set_cons_succ]
            refine wpAnyH_takeD (i := 12) (d := 38) (v := .string Y) rfl (by kernel_rfl) (by kernel_rfl) (by kernel_rfl) (fun _ _ _ h => h) (Or.inl ⟨by rfl, by intro w hSw; (try dsimp only at hSw); go_simp⟩) (by assumption) rfl ?_
            simp only [Act.put, List.setIfInBounds_toArray, List.set_cons_zero, List.set_cons_succ]
            refine wpAnyH_takeD (i := 13) (d := 6) (v := .string Y) rfl (by kernel_rfl) (by kernel_rfl) (by kernel_rfl) (fun _ _ _ h => h) (Or.inl ⟨by rfl, by intro w hSw; (try dsimp only at hSw); go_simp⟩) (by assumption) rfl ?_
            simp only [Act.put, List.setIfInBounds_toArray, List.set_cons_zero, List.set_cons_succ]
            refine wpAnyH_done (by kernel_rfl) ?_ _
            have HL : Hid (Below w.heap.size w v2) := HB.out.trans ((E0.out.trans (D2.out.mono E0.out.size)).mono HB.out.size)
            go_wp2
            go_roundw
            case rel => exact ⟨k + 1, by omega, by go_num, by rw [HY.out], HL.out⟩
            case measure => simp [intOf]; omega
          · skip
            go_simp
            go_at_call 44
            refine (numberBytes_any nd (by omega) _).mono ?_
            rintro e v2 ⟨rfl, hb9⟩
            rw [HNB.out]
            have Z2 : Hid (w0.heap.size ≤ v2.heap.size) := Nat.le_trans Z1.out hb9.size
            have D2 : Hid (Below w0.heap.size w0 v2) := D1.out.trans (hb9.mono Z1.out)
            have X2 : v2.cell? ⟨bb, 0, none⟩ = some (.int .u8 l) := (hb9.cell (p := ⟨bb, 0, none⟩) Y1).trans X1
            have Y2 : bb < v2.heap.size := Nat.lt_of_lt_of_le Y1 hb9.size
            have c2_0 : v2.cell? ⟨wr.heap.size, 0, none⟩ = some (.int .i64 l) := (D2.out.cell (p := ⟨wr.heap.size, 0, none⟩) hb0).trans cc0
            have c2_1 : v2.cell? ⟨wr.heap.size, 1, none⟩ = some (.int .i64 (q : Int)) := (D2.out.cell (p := ⟨wr.heap.size, 1, none⟩) hb1).trans cc1
            clear hb9
            refine hK.out _ _ ?_ (fun hHeld => ?_)
            · (first | go_keep | ((try dsimp only); go_keep))
            clear hK K
            try simp only [Act.put, List.setIfInBounds_toArray, List.set_cons_zero, List.set_cons_succ]
            refine wpAnyH_ready (rs := [5]) (by kernel_rfl) (by simp) ?_
            refine AllReadyH.cons rfl (fun K hK => ?_) AllReadyH.nil
            have hcv := byte_of_cell (P := Try.prog) Try.underlying61 Try.underlying5 Try.underlying9 X2
            rw [HLB.out] at hcv
            go_simp
            clear hcv
            refine hK.out _ _ ?_ (fun hHeld => ?_)
            · (first | go_keep | ((try dsimp only); go_keep))
            clear hK K
            try simp only [Act.put, List.setIfInBounds_toArray, List.set_cons_zero, List.set_cons_succ]
            refine wpAnyH_takeD (i := 11) (d := 37) (v := .string U) rfl (by kernel_rfl) (by kernel_rfl) (by kernel_rfl) (fun _ _ _ h => h) (Or.inl ⟨by rfl, by intro w hSw; (try dsimp only at hSw); go_simp⟩) (by assumption) rfl ?_
            simp only [Act.put, List.setIfInBounds_toArray, List.set_cons_zero, List.set_cons_succ]
            refine wpAnyH_takeD (i := 12) (d := 38) (v := .string Y) rfl (by kernel_rfl) (by kernel_rfl) (by kernel_rfl) (fun _ _ _ h => h) (Or.inl ⟨by rfl, by intro w hSw; (try dsimp only at hSw); go_simp⟩) (by assumption) rfl ?_
            simp only [Act.put, List.setIfInBounds_toArray, List.set_cons_zero, List.set_cons_succ]
            refine wpAnyH_takeD (i := 13) (d := 6) (v := .string Y) rfl (by kernel_rfl) (by kernel_rfl) (by kernel_rfl) (fun _ _ _ h => h) (Or.inl ⟨by rfl, by intro w hSw; (try dsimp only at hSw); go_simp⟩) (by assumption) rfl ?_
            simp only [Act.put, List.setIfInBounds_toArray, List.set_cons_zero, List.set_cons_succ]
            refine wpAnyH_done (by kernel_rfl) ?_ _
            have HL : Hid (Below w.heap.size w v2) := HB.out.trans ((E0.out.trans (D2.out.mono E0.out.size)).mono HB.out.size)
            go_wp2
            go_roundw
            case rel => exact ⟨k + 1, by omega, by go_num, by rw [HY.out], HL.out⟩
            case measure => simp [intOf]; omega
        · skip
          go_simp
          go_at_call 44
          refine (numberBytes_any nd (by omega) _).mono ?_
          rintro e v1 ⟨rfl, hb9⟩
          rw [HNB.out]
          have Z1 : Hid (w0.heap.size ≤ v1.heap.size) := Nat.le_trans Z0.out hb9.size
          have D1 : Hid (Below w0.heap.size w0 v1) := D0.out.trans (hb9.mono Z0.out)
          have c1_0 : v1.cell? ⟨wr.heap.size, 0, none⟩ = some (.int .i64 l) := (D1.out.cell (p := ⟨wr.heap.size, 0, none⟩) hb0).trans cc0
          have c1_1 : v1.cell? ⟨wr.heap.size, 1, none⟩ = some (.int .i64 (q : Int)) := (D1.out.cell (p := ⟨wr.heap.size, 1, none⟩) hb1).trans cc1
          clear hb9
          refine hK.out _ _ ?_ (fun hHeld => ?_)
          · (first | go_keep | ((try dsimp only); go_keep))
          clear hK K
          try simp only [Act.put, List.setIfInBounds_toArray, List.set_cons_zero, List.set_cons_succ]
          refine wpAnyH_ready (rs := [4]) (by kernel_rfl) (by simp) ?_
          refine AllReadyH.cons rfl (fun K hK => ?_) AllReadyH.nil
          go_simp
          obtain ⟨v2, hw⟩ : ∃ x, v1.alloc (.cells #[.int .u8 l] 5) = x := ⟨_, rfl⟩
          have hD : Below v1.heap.size v1 v2 := by rw [← hw]; exact (Below.refl _ _).alloc (Nat.le_refl _) _
          have Z2 : Hid (w0.heap.size ≤ v2.heap.size) := Nat.le_trans Z1.out hD.size
          have D2 : Hid (Below w0.heap.size w0 v2) := D1.out.trans (hD.mono Z1.out)
          obtain ⟨bb, hbb⟩ : ∃ x, v1.heap.size = x := ⟨_, rfl⟩
          have X2 : v2.cell? ⟨bb, 0, none⟩ = some (.int .u8 l) := by rw [← hbb, ← hw, cell_of_row _ _ 0 _ _ _ (heap_alloc_last v1 _)]; rfl
          have Y2 : bb < v2.heap.size := by rw [← hbb, ← hw]; simp
          rw [hw, hbb]
          have c2_0 : v2.cell? ⟨wr.heap.size, 0, none⟩ = some (.int .i64 l) := (D2.out.cell (p := ⟨wr.heap.size, 0, none⟩) hb0).trans cc0
          have c2_1 : v2.cell? ⟨wr.heap.size, 1, none⟩ = some (.int .i64 (q : Int)) := (D2.out.cell (p := ⟨wr.heap.size, 1, none⟩) hb1).trans cc1
          clear hw hbb hD
          refine hK.out _ _ ?_ (fun hHeld => ?_)
          · (first | go_keep | ((try dsimp only); go_keep))
          clear hK K
          try simp only [Act.put, List.setIfInBounds_toArray, List.set_cons_zero, List.set_cons_succ]
          refine wpAnyH_ready (rs := [5]) (by kernel_rfl) (by simp) ?_
          refine AllReadyH.cons rfl (fun K hK => ?_) AllReadyH.nil
          have hcv := byte_of_cell (P := Try.prog) Try.underlying61 Try.underlying5 Try.underlying9 X2
          rw [HLB.out] at hcv
          go_simp
          clear hcv
          refine hK.out _ _ ?_ (fun hHeld => ?_)
          · (first | go_keep | ((try dsimp only); go_keep))
          clear hK K
          try simp only [Act.put, List.setIfInBounds_toArray, List.set_cons_zero, List.set_cons_succ]
          refine wpAnyH_takeD (i := 11) (d := 37) (v := .string U) rfl (by kernel_rfl) (by kernel_rfl) (by kernel_rfl) (fun _ _ _ h => h) (Or.inl ⟨by rfl, by intro w hSw; (try dsimp only at hSw); go_simp⟩) (by assumption) rfl ?_
          simp only [Act.put, List.setIfInBounds_toArray, List.set_cons_zero, List.set_cons_succ]
          refine wpAnyH_takeD (i := 12) (d := 38) (v := .string Y) rfl (by kernel_rfl) (by kernel_rfl) (by kernel_rfl) (fun _ _ _ h => h) (Or.inl ⟨by rfl, by intro w hSw; (try dsimp only at hSw); go_simp⟩) (by assumption) rfl ?_
          simp only [Act.put, List.setIfInBounds_toArray, List.set_cons_zero, List.set_cons_succ]
          refine wpAnyH_takeD (i := 13) (d := 6) (v := .string Y) rfl (by kernel_rfl) (by kernel_rfl) (by kernel_rfl) (fun _ _ _ h => h) (Or.inl ⟨by rfl, by intro w hSw; (try dsimp only at hSw); go_simp⟩) (by assumption) rfl ?_
          simp only [Act.put, List.setIfInBounds_toArray, List.set_cons_zero, List.set_cons_succ]
          refine wpAnyH_done (by kernel_rfl) ?_ _
          have HL : Hid (Below w.heap.size w v2) := HB.out.trans ((E0.out.trans (D2.out.mono E0.out.size)).mono HB.out.size)
          go_wp2
          go_roundw
          case rel => exact ⟨k + 1, by omega, by go_num, by rw [HY.out], HL.out⟩
          case measure => simp [intOf]; omega
      · have hke : k = es.length := by omega
        have HE : Hid (X = bsT (stL p ⟨true, es⟩)) := by show _ = _; rw [← HXT.out, HR.out, hke, List.take_length]
        subst hke
        go_wp2
        go_ret
        rw [← HE.out]
        exact ⟨rfl, HB.out⟩
  | false =>
    have hi0 : 2 * (es.length : Int) = (hd : Int) := by simp at hhd2; omega
    clear hhd2
    go_enter Try.func45, Try.ntmps45
    go_wp2_with fail
    refine (numberBytes_any hd (by omega) _).mono ?_
    rintro e w1 ⟨rfl, hb1⟩
    have HB1 : Hid (Below w.heap.size w w1) := HX.out.trans (hb1.mono HX.out.size)
    have s1 : w1.cell? ⟨w.heap.size, 1, none⟩ = some (.slice a es.length cap) := (hb1.cell (p := ⟨w.heap.size, 1, none⟩) (by simp)).trans (by simp [go_sem])
    clear hb1
    go_wp2_with fail
    go_loopw [6, 22] (fun x i wr => ∃ (k : Nat), k ≤ es.length ∧ i = .int .i64 k ∧ x = .string (bsT (nbL hd ++ edsL p (es.take k))) ∧ Below w.heap.size w wr) (fun _ i _ => es.length - (intOf i).toNat)
    case atStart => exact ⟨0, Nat.zero_le _, rfl, by simp [edsL], HB1.out⟩
    case round =>
      clear s1
      obtain ⟨k, hk, rfl, rfl, hb⟩ := hrel
      have HB : Hid (Below w.heap.size w wr) := hb
      clear hb
      obtain ⟨X, hX⟩ : ∃ X, bsT (nbL hd ++ edsL p (es.take k)) = X := ⟨_, rfl⟩
      have HXT : Hid (bsT (nbL hd ++ edsL p (es.take k)) = X) := hX
      have hXs : X.size ≤ 100 := by rw [← hX, bsT_size, List.length_append]; have h1 := nbL_len hd; have h2 := edsL_len p (es.take k); rw [List.length_take] at h2; omega
      rw [hX]
      clear hX
      by_cases hlt : k < es.length
      · obtain ⟨b2, off2, cap2, ed, hv2, _, _, hbl2, hed, d1, d2⟩ := (HS.out.below HB.out).at hlt
        cases hv2
        have hb4 := edsOk_at HO.out hed
        obtain ⟨l, t⟩ := ed
        simp only at d1 d2 hb4
        obtain ⟨q, rfl⟩ : ∃ q : Nat, t = (q : Int) := ⟨t.toNat, by omega⟩
        obtain ⟨nd, hnd⟩ : ∃ nd, q - p = nd := ⟨_, rfl⟩
        have hnd2 : IntKind.i64.wrap ((q : Int) - (p : Int)) = (nd : Int) := by rw [show (q : Int) - (p : Int) = (nd : Int) by omega]; exact IntWalk.i64_in _ (by omega)
        have hnd3 : nd ≤ 400 := by omega
        have HE2 : Hid (edsL p (es.take (k + 1)) = edsL p (es.take k) ++ (UInt8.ofNat l.toNat :: nbL nd)) := by show _ = _; rw [edsL_take hed]; unfold edL; rw [Int.toNat_natCast, hnd]
        have h8 : IntKind.u8.wrap l = l := by simp only [IntKind.wrap, IntKind.signed, IntKind.bits]; simp; omega
        obtain ⟨LB, hLB⟩ : ∃ x, bsT [UInt8.ofNat l.toNat] = x := ⟨_, rfl⟩
        have HLB : Hid (bsT [UInt8.ofNat l.toNat] = LB) := hLB
        have hLs : LB.size = 1 := by rw [← hLB, bsT_size]; rfl
        obtain ⟨NB, hNB⟩ : ∃ x, bsT (nbL nd) = x := ⟨_, rfl⟩
        have HNB : Hid (bsT (nbL nd) = NB) := hNB
        have hNs : NB.size ≤ 2 := by rw [← hNB, bsT_size]; exact nbL_len nd
        obtain ⟨U, hU⟩ : ∃ x, LB ++ NB = x := ⟨_, rfl⟩
        have hUs : U.size ≤ 3 := by rw [← hU, ByteArray.size_append]; omega
        obtain ⟨Y, hY⟩ : ∃ x, X ++ U = x := ⟨_, rfl⟩
        have HY : Hid (bsT (nbL hd ++ edsL p (es.take (k + 1))) = Y) := by show _ = _; rw [← hY, ← hU, ← hLB, ← hNB, ← HXT.out, bsT_app, bsT_app, HE2.out]; simp
        have r1 : ∀ w : World, (Op.stringOp .add LB NB).run Try.prog w = .ok (.string U) w := fun w => by rw [run_string_add_sum w _ _ (by omega), hU]
        have r2 : ∀ w : World, (Op.stringOp .add X U).run Try.prog w = .ok (.string Y) w := fun w => by rw [run_string_add_sum w _ _ (by omega), hY]
        clear hLB hNB hU hY hed hnd
        go_wp2_with fail
        obtain ⟨w0, hw0⟩ : ∃ x, wr.alloc (.cells #[.int .i64 l, .int .i64 (q : Int)] 73) = x := ⟨_, rfl⟩
        have E0 : Hid (Below wr.heap.size wr w0) := by rw [← hw0]; exact (Below.refl _ _).alloc (Nat.le_refl _) _
        have cc0 : w0.cell? ⟨wr.heap.size, 0, none⟩ = some (.int .i64 l) := by rw [← hw0, cell_of_row _ _ 0 _ _ _ (heap_alloc_last wr _)]; rfl
        have cc1 : w0.cell? ⟨wr.heap.size, 1, none⟩ = some (.int .i64 (q : Int)) := by rw [← hw0, cell_of_row _ _ 1 _ _ _ (heap_alloc_last wr _)]; rfl
        have hb0 : wr.heap.size < w0.heap.size := by rw [← hw0]; simp
        have hb1 := hb0
        rw [hw0]
        clear hw0
        refine wp_region_held_drew (S := (fun w' => w'.cell? ⟨wr.heap.size, 0, none⟩ = some (.int .i64 l) ∧ w'.cell? ⟨wr.heap.size, 1, none⟩ = some (.int .i64 (q : Int)))) (by kernel_rfl) ?_ (fun hHeld => ?_)
        · (first | go_keep | ((try dsimp only); go_keep))
        refine wpAnyH_takeD (i := 0) (d := 26) (v := .string X) rfl (by kernel_rfl) (by kernel_rfl) (by kernel_rfl) (fun _ _ _ h => h) (Or.inl ⟨by rfl, by intro w hSw; (try dsimp only at hSw); go_simp⟩) (by assumption) rfl ?_
        simp only [Act.put, List.setIfInBounds_toArray, List.set_cons_zero, List.set_cons_succ]
        refine wpAnyH_takeD (i := 1) (d := 27) (v := .pointer (some ⟨wr.heap.size, 0, none⟩)) rfl (by kernel_rfl) (by kernel_rfl) (by kernel_rfl) (fun _ _ _ h => h) (Or.inl ⟨by rfl, by intro w hSw; (try dsimp only at hSw); go_simp⟩) (by assumption) rfl ?_
        simp only [Act.put, List.setIfInBounds_toArray, List.set_cons_zero, List.set_cons_succ]
        refine wpAnyH_takeD (i := 2) (d := 28) (v := .int .i64 l) rfl (by kernel_rfl) (by kernel_rfl) (by kernel_rfl) (fun _ _ _ h => h) (Or.inl ⟨by rfl, by intro w hSw; (try dsimp only at hSw); go_simp⟩) (by assumption) rfl ?_
        simp only [Act.put, List.setIfInBounds_toArray, List.set_cons_zero, List.set_cons_succ]
        refine wpAnyH_takeD (i := 3) (d := 29) (v := .int .u8 l) rfl (by kernel_rfl) (by kernel_rfl) (by kernel_rfl) (fun _ _ _ h => h) (Or.inl ⟨by rfl, by intro w hSw; (try dsimp only at hSw); go_simp⟩) (by assumption) rfl ?_
        simp only [Act.put, List.setIfInBounds_toArray, List.set_cons_zero, List.set_cons_succ]
        refine wpAnyH_takeD (i := 6) (d := 32) (v := .pointer (some ⟨wr.heap.size, 1, none⟩)) rfl (by kernel_rfl) (by kernel_rfl) (by kernel_rfl) (fun _ _ _ h => h) (Or.inl ⟨by rfl, by intro w hSw; (try dsimp only at hSw); go_simp⟩) (by assumption) rfl ?_
        simp only [Act.put, List.setIfInBounds_toArray, List.set_cons_zero, List.set_cons_succ]
        refine wpAnyH_takeD (i := 7) (d := 33) (v := .int .i64 (q : Int)) rfl (by kernel_rfl) (by kernel_rfl) (by kernel_rfl) (fun _ _ _ h => h) (Or.inl ⟨by rfl, by intro w hSw; (try dsimp only at hSw); go_simp⟩) (by assumption) rfl ?_
        simp only [Act.put, List.setIfInBounds_toArray, List.set_cons_zero, List.set_cons_succ]
        refine wpAnyH_takeD (i := 8) (d := 34) (v := .int .i64 (p : Int)) rfl (by kernel_rfl) (by kernel_rfl) (by kernel_rfl) (fun _ _ _ h => h) (Or.inl ⟨by rfl, by intro w hSw; (try dsimp only at hSw); go_simp⟩) (by assumption) rfl ?_
        simp only [Act.put, List.setIfInBounds_toArray, List.set_cons_zero, List.set_cons_succ]
        refine wpAnyH_takeD (i := 9) (d := 35) (v := .int .i64 (nd : Int)) rfl (by kernel_rfl) (by kernel_rfl) (by kernel_rfl) (fun _ _ _ h => h) (Or.inl ⟨by rfl, by intro w hSw; (try dsimp only at hSw); go_simp⟩) (by assumption) rfl ?_
        simp only [Act.put, List.setIfInBounds_toArray, List.set_cons_zero, List.set_cons_succ]
        obtain ⟨wd, hwd⟩ : ∃ x, World.drew w0 = x := ⟨_, rfl⟩
        have F0 : Hid (Below w0.heap.size w0 wd) := by rw [← hwd]; exact (Below.refl _ _).drew
        rw [hwd]
        clear hwd
        have Z0 : Hid (w0.heap.size ≤ wd.heap.size) := F0.out.size
        have D0 : Hid (Below w0.heap.size w0 wd) := F0.out
        clear F0
        refine wpAnyH_ready (rs := [4, 10]) (by kernel_rfl) (by simp) ?_
        refine AllReadyH.cons rfl (fun K hK => ?_) (AllReadyH.cons rfl (fun K hK => ?_) AllReadyH.nil)
        · skip
          go_simp
          obtain ⟨v1, hw⟩ : ∃ x, wd.alloc (.cells #[.int .u8 l] 5) = x := ⟨_, rfl⟩
          have hD : Below wd.heap.size wd v1 := by rw [← hw]; exact (Below.refl _ _).alloc (Nat.le_refl _) _
          have Z1 : Hid (w0.heap.size ≤ v1.heap.size) := Nat.le_trans Z0.out hD.size
          have D1 : Hid (Below w0.heap.size w0 v1) := D0.out.trans (hD.mono Z0.out)
          obtain ⟨bb, hbb⟩ : ∃ x, wd.heap.size = x := ⟨_, rfl⟩
          have X1 : v1.cell? ⟨bb, 0, none⟩ = some (.int .u8 l) := by rw [← hbb, ← hw, cell_of_row _ _ 0 _ _ _ (heap_alloc_last wd _)]; rfl
          have Y1 : bb < v1.heap.size := by rw [← hbb, ← hw]; simp
          rw [hw, hbb]
          have c1_0 : v1.cell? ⟨wr.heap.size, 0, none⟩ = some (.int .i64 l) := (D1.out.cell (p := ⟨wr.heap.size, 0, none⟩) hb0).trans cc0
          have c1_1 : v1.cell? ⟨wr.heap.size, 1, none⟩ = some (.int .i64 (q : Int)) := (D1.out.cell (p := ⟨wr.heap.size, 1, none⟩) hb1).trans cc1
          clear hw hbb hD
          refine hK.out _ _ ?_ (fun hHeld => ?_)
          · (first | go_keep | ((try dsimp only); go_keep))
          clear hK K
          try simp only [Act.put, List.setIfInBounds_toArray, List.set_cons_zero, List.set_cons_succ]
          refine wpAnyH_ready (rs := [5, 10]) (by kernel_rfl) (by simp) ?_
          refine AllReadyH.cons rfl (fun K hK => ?_) (AllReadyH.cons rfl (fun K hK => ?_) AllReadyH.nil)
          · skip
            have hcv := byte_of_cell (P := Try.prog) Try.underlying61 Try.underlying5 Try.underlying9 X1
            rw [HLB.out] at hcv
            go_simp
            clear hcv
            refine hK.out _ _ ?_ (fun hHeld => ?_)
            · (first | go_keep | ((try dsimp only); go_keep))
            clear hK K
            try simp only [Act.put, List.setIfInBounds_toArray, List.set_cons_zero, List.set_cons_succ]
            refine wpAnyH_ready (rs := [10]) (by kernel_rfl) (by simp) ?_
            refine AllReadyH.cons rfl (fun K hK => ?_) AllReadyH.nil
            go_simp
            go_at_call 44
            refine (numberBytes_any nd (by omega) _).mono ?_
            rintro e v2 ⟨rfl, hb9⟩
            rw [HNB.out]
            have Z2 : Hid (w0.heap.size ≤ v2.heap.size) := Nat.le_trans Z1.out hb9.size
            have D2 : Hid (Below w0.heap.size w0 v2) := D1.out.trans (hb9.mono Z1.out)
            have c2_0 : v2.cell? ⟨wr.heap.size, 0, none⟩ = some (.int .i64 l) := (D2.out.cell (p := ⟨wr.heap.size, 0, none⟩) hb0).trans cc0
            have c2_1 : v2.cell? ⟨wr.heap.size, 1, none⟩ = some (.int .i64 (q : Int)) := (D2.out.cell (p := ⟨wr.heap.size, 1, none⟩) hb1).trans cc1
            clear hb9
            refine hK.out _ _ ?_ (fun hHeld => ?_)
            · (first | go_keep | ((try dsimp only); go_keep))
            clear hK K
            try simp only [Act.put, List.setIfInBounds_toArray, List.set_cons_zero, List.set_cons_succ]
            refine wpAnyH_takeD (i := 11) (d := 37) (v := .string U) rfl (by kernel_rfl) (by kernel_rfl) (by kernel_rfl) (fun _ _ _ h => h) (Or.inl ⟨by rfl, by intro w hSw; (try dsimp only at hSw); go_simp⟩) (by assumption) rfl ?_
            simp only [Act.put, List.setIfInBounds_toArray, List.set_cons_zero, List.set_cons_succ]
            refine wpAnyH_takeD (i := 12) (d := 38) (v := .string Y) rfl (by kernel_rfl) (by kernel_rfl) (by kernel_rfl) (fun _ _ _ h => h) (Or.inl ⟨by rfl, by intro w hSw; (try dsimp only at hSw); go_simp⟩) (by assumption) rfl ?_
            simp only [Act.put, List.setIfInBounds_toArray, List.set_cons_zero, List.set_cons_succ]
            refine wpAnyH_takeD (i := 13) (d := 6) (v := .string Y) rfl (by kernel_rfl) (by kernel_rfl) (by kernel_rfl) (fun _ _ _ h => h) (Or.inl ⟨by rfl, by intro w hSw; (try dsimp only at hSw); go_simp⟩) (by assumption) rfl ?_
            simp only [Act.put, List.setIfInBounds_toArray, List.set_cons_zero, List.set_cons_succ]
            refine wpAnyH_done (by kernel_rfl) ?_ _
            have HL : Hid (Below w.heap.size w v2) := HB.out.trans ((E0.out.trans (D2.out.mono E0.out.size)).mono HB.out.size)
            go_wp2
            go_roundw
            case rel => exact ⟨k + 1, by omega, by go_num, by rw [HY.out], HL.out⟩
            case measure => simp [intOf]; omega
          · skip
            go_simp
            go_at_call 44
            refine (numberBytes_any nd (by omega) _).mono ?_
            rintro e v2 ⟨rfl, hb9⟩
            rw [HNB.out]
            have Z2 : Hid (w0.heap.size ≤ v2.heap.size) := Nat.le_trans Z1.out hb9.size
            have D2 : Hid (Below w0.heap.size w0 v2) := D1.out.trans (hb9.mono Z1.out)
            have X2 : v2.cell? ⟨bb, 0, none⟩ = some (.int .u8 l) := (hb9.cell (p := ⟨bb, 0, none⟩) Y1).trans X1
            have Y2 : bb < v2.heap.size := Nat.lt_of_lt_of_le Y1 hb9.size
            have c2_0 : v2.cell? ⟨wr.heap.size, 0, none⟩ = some (.int .i64 l) := (D2.out.cell (p := ⟨wr.heap.size, 0, none⟩) hb0).trans cc0
            have c2_1 : v2.cell? ⟨wr.heap.size, 1, none⟩ = some (.int .i64 (q : Int)) := (D2.out.cell (p := ⟨wr.heap.size, 1, none⟩) hb1).trans cc1
            clear hb9
            refine hK.out _ _ ?_ (fun hHeld => ?_)
            · (first | go_keep | ((try dsimp only); go_keep))
            clear hK K
            try simp only [Act.put, List.setIfInBounds_toArray, List.set_cons_zero, List.set_cons_succ]
            refine wpAnyH_ready (rs := [5]) (by kernel_rfl) (by simp) ?_
            refine AllReadyH.cons rfl (fun K hK => ?_) AllReadyH.nil
            have hcv := byte_of_cell (P := Try.prog) Try.underlying61 Try.underlying5 Try.underlying9 X2
            rw [HLB.out] at hcv
            go_simp
            clear hcv
            refine hK.out _ _ ?_ (fun hHeld => ?_)
            · (first | go_keep | ((try dsimp only); go_keep))
            clear hK K
            try simp only [Act.put, List.setIfInBounds_toArray, List.set_cons_zero, List.set_cons_succ]
            refine wpAnyH_takeD (i := 11) (d := 37) (v := .string U) rfl (by kernel_rfl) (by kernel_rfl) (by kernel_rfl) (fun _ _ _ h => h) (Or.inl ⟨by rfl, by intro w hSw; (try dsimp only at hSw); go_simp⟩) (by assumption) rfl ?_
            simp only [Act.put, List.setIfInBounds_toArray, List.set_cons_zero, List.set_cons_succ]
            refine wpAnyH_takeD (i := 12) (d := 38) (v := .string Y) rfl (by kernel_rfl) (by kernel_rfl) (by kernel_rfl) (fun _ _ _ h => h) (Or.inl ⟨by rfl, by intro w hSw; (try dsimp only at hSw); go_simp⟩) (by assumption) rfl ?_
            simp only [Act.put, List.setIfInBounds_toArray, List.set_cons_zero, List.set_cons_succ]
            refine wpAnyH_takeD (i := 13) (d := 6) (v := .string Y) rfl (by kernel_rfl) (by kernel_rfl) (by kernel_rfl) (fun _ _ _ h => h) (Or.inl ⟨by rfl, by intro w hSw; (try dsimp only at hSw); go_simp⟩) (by assumption) rfl ?_
            simp only [Act.put, List.setIfInBounds_toArray, List.set_cons_zero, List.set_cons_succ]
            refine wpAnyH_done (by kernel_rfl) ?_ _
            have HL : Hid (Below w.heap.size w v2) := HB.out.trans ((E0.out.trans (D2.out.mono E0.out.size)).mono HB.out.size)
            go_wp2
            go_roundw
            case rel => exact ⟨k + 1, by omega, by go_num, by rw [HY.out], HL.out⟩
            case measure => simp [intOf]; omega
        · skip
          go_simp
          go_at_call 44
          refine (numberBytes_any nd (by omega) _).mono ?_
          rintro e v1 ⟨rfl, hb9⟩
          rw [HNB.out]
          have Z1 : Hid (w0.heap.size ≤ v1.heap.size) := Nat.le_trans Z0.out hb9.size
          have D1 : Hid (Below w0.heap.size w0 v1) := D0.out.trans (hb9.mono Z0.out)
          have c1_0 : v1.cell? ⟨wr.heap.size, 0, none⟩ = some (.int .i64 l) := (D1.out.cell (p := ⟨wr.heap.size, 0, none⟩) hb0).trans cc0
          have c1_1 : v1.cell? ⟨wr.heap.size, 1, none⟩ = some (.int .i64 (q : Int)) := (D1.out.cell (p := ⟨wr.heap.size, 1, none⟩) hb1).trans cc1
          clear hb9
          refine hK.out _ _ ?_ (fun hHeld => ?_)
          · (first | go_keep | ((try dsimp only); go_keep))
          clear hK K
          try simp only [Act.put, List.setIfInBounds_toArray, List.set_cons_zero, List.set_cons_succ]
          refine wpAnyH_ready (rs := [4]) (by kernel_rfl) (by simp) ?_
          refine AllReadyH.cons rfl (fun K hK => ?_) AllReadyH.nil
          go_simp
          obtain ⟨v2, hw⟩ : ∃ x, v1.alloc (.cells #[.int .u8 l] 5) = x := ⟨_, rfl⟩
          have hD : Below v1.heap.size v1 v2 := by rw [← hw]; exact (Below.refl _ _).alloc (Nat.le_refl _) _
          have Z2 : Hid (w0.heap.size ≤ v2.heap.size) := Nat.le_trans Z1.out hD.size
          have D2 : Hid (Below w0.heap.size w0 v2) := D1.out.trans (hD.mono Z1.out)
          obtain ⟨bb, hbb⟩ : ∃ x, v1.heap.size = x := ⟨_, rfl⟩
          have X2 : v2.cell? ⟨bb, 0, none⟩ = some (.int .u8 l) := by rw [← hbb, ← hw, cell_of_row _ _ 0 _ _ _ (heap_alloc_last v1 _)]; rfl
          have Y2 : bb < v2.heap.size := by rw [← hbb, ← hw]; simp
          rw [hw, hbb]
          have c2_0 : v2.cell? ⟨wr.heap.size, 0, none⟩ = some (.int .i64 l) := (D2.out.cell (p := ⟨wr.heap.size, 0, none⟩) hb0).trans cc0
          have c2_1 : v2.cell? ⟨wr.heap.size, 1, none⟩ = some (.int .i64 (q : Int)) := (D2.out.cell (p := ⟨wr.heap.size, 1, none⟩) hb1).trans cc1
          clear hw hbb hD
          refine hK.out _ _ ?_ (fun hHeld => ?_)
          · (first | go_keep | ((try dsimp only); go_keep))
          clear hK K
          try simp only [Act.put, List.setIfInBounds_toArray, List.set_cons_zero, List.set_cons_succ]
          refine wpAnyH_ready (rs := [5]) (by kernel_rfl) (by simp) ?_
          refine AllReadyH.cons rfl (fun K hK => ?_) AllReadyH.nil
          have hcv := byte_of_cell (P := Try.prog) Try.underlying61 Try.underlying5 Try.underlying9 X2
          rw [HLB.out] at hcv
          go_simp
          clear hcv
          refine hK.out _ _ ?_ (fun hHeld => ?_)
          · (first | go_keep | ((try dsimp only); go_keep))
          clear hK K
          try simp only [Act.put, List.setIfInBounds_toArray, List.set_cons_zero, List.set_cons_succ]
          refine wpAnyH_takeD (i := 11) (d := 37) (v := .string U) rfl (by kernel_rfl) (by kernel_rfl) (by kernel_rfl) (fun _ _ _ h => h) (Or.inl ⟨by rfl, by intro w hSw; (try dsimp only at hSw); go_simp⟩) (by assumption) rfl ?_
          simp only [Act.put, List.setIfInBounds_toArray, List.set_cons_zero, List.set_cons_succ]
          refine wpAnyH_takeD (i := 12) (d := 38) (v := .string Y) rfl (by kernel_rfl) (by kernel_rfl) (by kernel_rfl) (fun _ _ _ h => h) (Or.inl ⟨by rfl, by intro w hSw; (try dsimp only at hSw); go_simp⟩) (by assumption) rfl ?_
          simp only [Act.put, List.setIfInBounds_toArray, List.set_cons_zero, List.set_cons_succ]
          refine wpAnyH_takeD (i := 13) (d := 6) (v := .string Y) rfl (by kernel_rfl) (by kernel_rfl) (by kernel_rfl) (fun _ _ _ h => h) (Or.inl ⟨by rfl, by intro w hSw; (try dsimp only at hSw); go_simp⟩) (by assumption) rfl ?_
          simp only [Act.put, List.setIfInBounds_toArray, List.set_cons_zero, List.set_cons_succ]
          refine wpAnyH_done (by kernel_rfl) ?_ _
          have HL : Hid (Below w.heap.size w v2) := HB.out.trans ((E0.out.trans (D2.out.mono E0.out.size)).mono HB.out.size)
          go_wp2
          go_roundw
          case rel => exact ⟨k + 1, by omega, by go_num, by rw [HY.out], HL.out⟩
          case measure => simp [intOf]; omega
      · have hke : k = es.length := by omega
        have HE : Hid (X = bsT (stL p ⟨false, es⟩)) := by show _ = _; rw [← HXT.out, HR.out, hke, List.take_length]
        subst hke
        go_wp2
        go_ret
        rw [← HE.out]
        exact ⟨rfl, HB.out⟩
end Go.Proofs.Ytbkjbkdmanaohaa
/-
  spec.l12Put.
-/
namespace Go.Proofs.Ytbkjbkdmanaohaa
open Go.RowKit
set_option linter.unusedVariables false
set_option maxRecDepth 100000 in
set_option maxHeartbeats 8000000 in
theorem l12Put_any (w : World) (v : Value) (ss : List Sta) (h : StatesAt w v ss) (hok : stasOk ss = true) (h4 : ss.length ≤ 400) :
    Calls Try.prog 42 #[v] w fun e w' => e = .returned (.string (bsT (machL ss))) ∧ Below w.heap.size w w' := by
  obtain ⟨sa, cap, rfl, hc, hm⟩ := h.form
  have HS : Hid (StatesAt w (.slice sa ss.length cap) ss) := h
  have HO : Hid (stasOk ss = true) := hok
  have HLEN : Hid (∀ (i : Nat) (st : Sta), ss[i]? = some st → st.es.length ≤ 26) := fun i st hs => eds_len (staOk_es (stasOk_at hok hs))
  have HM : Hid (machL ss = nbL ss.length ++ stsL ss ss.length) := rfl
  obtain ⟨NL, hNL⟩ : ∃ x, nbL ss.length = x := ⟨_, rfl⟩
  have HNL : Hid (nbL ss.length = NL) := hNL
  have hNLs : NL.length ≤ 2 := by rw [← hNL]; exact nbL_len _
  rw [hNL] at HM
  clear h hok hNL
  unfold maxLen at hm
  go_enter Try.func42, Try.ntmps42
  go_wp2_with fail
  refine (l12Bytes_any ss.length (by omega) _).mono ?_
  rintro e w1 ⟨rfl, hb1⟩
  rw [HNL.out]
  have HB1 : Hid (Below w.heap.size w w1) := hb1
  clear hb1
  go_wp2_with fail
  go_loopw [3, 4] (fun x i wr => ∃ (k : Nat), k ≤ ss.length ∧ i = .int .i64 k ∧ x = .string (bsT (NL ++ stsL ss k)) ∧ Below w.heap.size w wr) (fun _ i _ => ss.length - (intOf i).toNat)
  case atStart => exact ⟨0, Nat.zero_le _, rfl, by simp [stsL], HB1.out⟩
  case round =>
    obtain ⟨i, hi, rfl, rfl, hb⟩ := hrel
    have HB : Hid (Below w.heap.size w wr) := hb
    clear hb
    have hsl := stsL_len HLEN.out i
    by_cases hlt : i < ss.length
    · obtain ⟨b1, off1, cap1, st, ev, hv, _, _, hbl1, hst, c1, c2, hev⟩ := (HS.out.below HB.out).at hlt
      cases hv
      have HST : Hid (ss[i]? = some st) := hst
      have HED : Hid (edsOk (i + 1) ss.length st.es = true) := staOk_es (stasOk_at HO.out hst)
      have hl26 := HLEN.out i st hst
      obtain ⟨en, es⟩ := st
      simp only at hl26 c1 hev HED
      obtain ⟨ae, cape, hve, hce, hme⟩ := hev.form
      subst hve
      have HE : Hid (EdgesIn 0 wr (.slice ae es.length cape) es) := hev
      obtain ⟨hd, hhd⟩ : ∃ x, headN ⟨en, es⟩ = x := ⟨_, rfl⟩
      have hhd2 : hd = 2 * es.length + (if en then 1 else 0) := by rw [← hhd]; rfl
      have hhd3 : hd ≤ 100 := by rw [hhd2]; split <;> omega
      have HNX : Hid (stsL ss (i + 1) = stsL ss i ++ (nbL hd ++ edsL i es)) := by show _ = _; rw [stsL_succ hst]; unfold stL; rw [hhd]
      obtain ⟨HB9, hHB⟩ : ∃ x, nbL hd = x := ⟨_, rfl⟩
      have HHB : Hid (nbL hd = HB9) := hHB
      have hHs : HB9.length ≤ 2 := by rw [← hHB]; exact nbL_len _
      obtain ⟨P0, hP0⟩ : ∃ x, NL ++ stsL ss i = x := ⟨_, rfl⟩
      have HP0 : Hid (NL ++ stsL ss i = P0) := hP0
      have hPs : P0.length ≤ 33000 := by rw [← hP0, List.length_append]; omega
      have hps2 : (bsT P0).size = P0.length := bsT_size _
      have hps3 : (bsT HB9).size = HB9.length := bsT_size _
      have hap : bsT P0 ++ bsT HB9 = bsT (P0 ++ HB9) := bsT_app _ _
      have hps4 : (bsT (P0 ++ HB9)).size = P0.length + HB9.length := by rw [bsT_size, List.length_append]
      rw [hP0]
      rw [hHB] at HNX
      clear hP0 hHB hhd hst hev hme hsl
      have hi1 : (i : Int) < ss.length := by omega
      have hi2 : i < ss.length := hlt
      cases en with
      | true =>
        have hi0 : 2 * (es.length : Int) + 1 = (hd : Int) := by simp at hhd2; omega
        clear hhd2
        go_wp2_with fail
        refine (l12Bytes_any hd (by omega) _).mono ?_
        rintro e w2 ⟨rfl, hb2⟩
        rw [HHB.out]
        have HB2 : Hid (Below w.heap.size w w2) := HB.out.trans (hb2.mono HB.out.size)
        have HQ : Hid (Below wr.heap.size wr w2) := hb2
        have x2 : w2.cell? ⟨b1, off1 + i * 2 + 1, none⟩ = some (.slice ae es.length cape) := (hb2.cell (p := ⟨b1, off1 + i * 2 + 1, none⟩) hbl1).trans c2
        have hbw : b1 < w2.heap.size := Nat.lt_of_lt_of_le hbl1 hb2.size
        have HE2 : Hid (EdgesIn 0 w2 (.slice ae es.length cape) es) := HE.out.below hb2
        clear hb2 c1 c2
        go_wp2_with fail
        try rw [hap]
        obtain ⟨wo, hwo⟩ : ∃ x, x = w2 := ⟨_, rfl⟩
        subst hwo
        go_loopw [3, 6] (fun x j wr => ∃ (k : Nat), k ≤ es.length ∧ j = .int .i64 k ∧ x = .string (bsT (P0 ++ HB9 ++ edsL i (es.take k))) ∧ Below wo.heap.size wo wr) (fun _ j _ => es.length - (intOf j).toNat)
        case atStart => exact ⟨0, Nat.zero_le _, rfl, by simp [edsL], Below.refl _ _⟩
        case round =>
          obtain ⟨k, hk, rfl, rfl, hb⟩ := hrel
          have HBi : Hid (Below wo.heap.size wo wr) := hb
          have HBw : Hid (Below w.heap.size w wr) := HB2.out.trans (hb.mono HB2.out.size)
          have cc0 : wr.cell? ⟨b1, off1 + i * 2 + 1, none⟩ = some (.slice ae es.length cape) := (hb.cell (p := ⟨b1, off1 + i * 2 + 1, none⟩) hbw).trans x2
          have hb0 : b1 < wr.heap.size := Nat.lt_of_lt_of_le hbw hb.size
          clear hb
          obtain ⟨X, hX⟩ : ∃ X, bsT (P0 ++ HB9 ++ edsL i (es.take k)) = X := ⟨_, rfl⟩
          have HXT : Hid (bsT (P0 ++ HB9 ++ edsL i (es.take k)) = X) := hX
          have hXs : X.size ≤ 34000 := by rw [← hX, bsT_size, List.length_append, List.length_append]; have h2 := edsL_len i (es.take k); rw [List.length_take] at h2; omega
          rw [hX]
          clear hX
          by_cases hltk : k < es.length
          · obtain ⟨b2, off2, cap2, ed, hv2, _, _, hbl2, hed, cc1, cc2⟩ := (HE2.out.below HBi.out).at hltk
            cases hv2
            have hb4 := edsOk_at HED.out hed
            obtain ⟨l, t⟩ := ed
            simp only at cc1 cc2 hb4
            obtain ⟨q, rfl⟩ : ∃ q : Nat, t = (q : Int) := ⟨t.toNat, by omega⟩
            obtain ⟨nd, hnd⟩ : ∃ nd, q - i = nd := ⟨_, rfl⟩
            have hnd2 : IntKind.i64.wrap ((q : Int) - (i : Int)) = (nd : Int) := by rw [show (q : Int) - (i : Int) = (nd : Int) by omega]; exact IntWalk.i64_in _ (by omega)
            have hnd3 : nd ≤ 400 := by omega
            have HE3 : Hid (edsL i (es.take (k + 1)) = edsL i (es.take k) ++ (UInt8.ofNat l.toNat :: nbL nd)) := by show _ = _; rw [edsL_take hed]; unfold edL; rw [Int.toNat_natCast, hnd]
            have h8 : IntKind.u8.wrap l = l := by simp only [IntKind.wrap, IntKind.signed, IntKind.bits]; simp; omega
            obtain ⟨LB, hLB⟩ : ∃ x, bsT [UInt8.ofNat l.toNat] = x := ⟨_, rfl⟩
            have HLB : Hid (bsT [UInt8.ofNat l.toNat] = LB) := hLB
            have hLs : LB.size = 1 := by rw [← hLB, bsT_size]; rfl
            obtain ⟨NB, hNB⟩ : ∃ x, bsT (nbL nd) = x := ⟨_, rfl⟩
            have HNB : Hid (bsT (nbL nd) = NB) := hNB
            have hNs : NB.size ≤ 2 := by rw [← hNB, bsT_size]; exact nbL_len nd
            obtain ⟨U, hU⟩ : ∃ x, X ++ LB = x := ⟨_, rfl⟩
            have hUs : U.size ≤ 35000 := by rw [← hU, ByteArray.size_append]; omega
            obtain ⟨Y, hY⟩ : ∃ x, U ++ NB = x := ⟨_, rfl⟩
            have HY : Hid (bsT (P0 ++ HB9 ++ edsL i (es.take (k + 1))) = Y) := by show _ = _; rw [← hY, ← hU, ← hLB, ← hNB, ← HXT.out, bsT_app, bsT_app, HE3.out]; simp
            have r1 : ∀ w : World, (Op.stringOp .add X LB).run Try.prog w = .ok (.string U) w := fun w => by rw [run_string_add_sum w _ _ (by omega), hU]
            have r2 : ∀ w : World, (Op.stringOp .add U NB).run Try.prog w = .ok (.string Y) w := fun w => by rw [run_string_add_sum w _ _ (by omega), hY]
            have hlk : (k : Int) < es.length := by omega
            have hb1 := hbl2
            have hb2 := hbl2
            clear hLB hNB hU hY hed hnd
            go_wp2_with fail
            refine wp_region_held_drew (S := (fun w' => w'.cell? ⟨b1, off1 + i * 2 + 1, none⟩ = some (.slice (some ⟨b2, off2, none⟩) es.length cape) ∧ w'.cell? ⟨b2, off2 + k * 2, none⟩ = some (.int .i64 l) ∧ w'.cell? ⟨b2, off2 + k * 2 + 1, none⟩ = some (.int .i64 (q : Int)))) (by kernel_rfl) ?_ (fun hHeld => ?_)
            · (first | go_keep | ((try dsimp only); go_keep))
            refine wpAnyH_takeD (i := 0) (d := 44) (v := .string X) rfl (by kernel_rfl) (by kernel_rfl) (by kernel_rfl) (fun _ _ _ h => h) (Or.inl ⟨by rfl, by intro w hSw; (try dsimp only at hSw); go_simp⟩) (by assumption) rfl ?_
            simp only [Act.put, List.setIfInBounds_toArray, List.set_cons_zero, List.set_cons_succ]
            refine wpAnyH_takeD (i := 1) (d := 45) (v := .slice (some ⟨b1, off1, none⟩) ss.length cap) rfl (by kernel_rfl) (by kernel_rfl) (by kernel_rfl) (fun _ _ _ h => h) (Or.inl ⟨by rfl, by intro w hSw; (try dsimp only at hSw); go_simp⟩) (by assumption) rfl ?_
            simp only [Act.put, List.setIfInBounds_toArray, List.set_cons_zero, List.set_cons_succ]
            refine wpAnyH_takeD (i := 2) (d := 46) (v := .int .i64 (i : Int)) rfl (by kernel_rfl) (by kernel_rfl) (by kernel_rfl) (fun _ _ _ h => h) (Or.inl ⟨by rfl, by intro w hSw; (try dsimp only at hSw); go_simp⟩) (by assumption) rfl ?_
            simp only [Act.put, List.setIfInBounds_toArray, List.set_cons_zero, List.set_cons_succ]
            refine wpAnyH_takeD (i := 3) (d := 47) (v := .pointer (some ⟨b1, off1 + i * 2, none⟩)) rfl (by kernel_rfl) (by kernel_rfl) (by kernel_rfl) (fun _ _ _ h => h) (Or.inl ⟨by rfl, by intro w hSw; (try dsimp only at hSw); go_simp⟩) (by assumption) rfl ?_
            simp only [Act.put, List.setIfInBounds_toArray, List.set_cons_zero, List.set_cons_succ]
            refine wpAnyH_takeD (i := 4) (d := 48) (v := .pointer (some ⟨b1, off1 + i * 2 + 1, none⟩)) rfl (by kernel_rfl) (by kernel_rfl) (by kernel_rfl) (fun _ _ _ h => h) (Or.inl ⟨by rfl, by intro w hSw; (try dsimp only at hSw); go_simp⟩) (by assumption) rfl ?_
            simp only [Act.put, List.setIfInBounds_toArray, List.set_cons_zero, List.set_cons_succ]
            refine wpAnyH_takeD (i := 5) (d := 49) (v := .slice (some ⟨b2, off2, none⟩) es.length cape) rfl (by kernel_rfl) (by kernel_rfl) (by kernel_rfl) (fun _ _ _ h => h) (Or.inl ⟨by rfl, by intro w hSw; (try dsimp only at hSw); go_simp⟩) (by assumption) rfl ?_
            simp only [Act.put, List.setIfInBounds_toArray, List.set_cons_zero, List.set_cons_succ]
            refine wpAnyH_takeD (i := 6) (d := 50) (v := .int .i64 (k : Int)) rfl (by kernel_rfl) (by kernel_rfl) (by kernel_rfl) (fun _ _ _ h => h) (Or.inl ⟨by rfl, by intro w hSw; (try dsimp only at hSw); go_simp⟩) (by assumption) rfl ?_
            simp only [Act.put, List.setIfInBounds_toArray, List.set_cons_zero, List.set_cons_succ]
            refine wpAnyH_takeD (i := 7) (d := 51) (v := .pointer (some ⟨b2, off2 + k * 2, none⟩)) rfl (by kernel_rfl) (by kernel_rfl) (by kernel_rfl) (fun _ _ _ h => h) (Or.inl ⟨by rfl, by intro w hSw; (try dsimp only at hSw); go_simp⟩) (by assumption) rfl ?_
            simp only [Act.put, List.setIfInBounds_toArray, List.set_cons_zero, List.set_cons_succ]
            refine wpAnyH_takeD (i := 8) (d := 52) (v := .pointer (some ⟨b2, off2 + k * 2, none⟩)) rfl (by kernel_rfl) (by kernel_rfl) (by kernel_rfl) (fun _ _ _ h => h) (Or.inl ⟨by rfl, by intro w hSw; (try dsimp only at hSw); go_simp⟩) (by assumption) rfl ?_
            simp only [Act.put, List.setIfInBounds_toArray, List.set_cons_zero, List.set_cons_succ]
            refine wpAnyH_takeD (i := 9) (d := 53) (v := .int .i64 l) rfl (by kernel_rfl) (by kernel_rfl) (by kernel_rfl) (fun _ _ _ h => h) (Or.inl ⟨by rfl, by intro w hSw; (try dsimp only at hSw); go_simp⟩) (by assumption) rfl ?_
            simp only [Act.put, List.setIfInBounds_toArray, List.set_cons_zero, List.set_cons_succ]
            refine wpAnyH_takeD (i := 10) (d := 54) (v := .int .u8 l) rfl (by kernel_rfl) (by kernel_rfl) (by kernel_rfl) (fun _ _ _ h => h) (Or.inl ⟨by rfl, by intro w hSw; (try dsimp only at hSw); go_simp⟩) (by assumption) rfl ?_
            simp only [Act.put, List.setIfInBounds_toArray, List.set_cons_zero, List.set_cons_succ]
            refine wpAnyH_takeD (i := 14) (d := 58) (v := .slice (some ⟨b1, off1, none⟩) ss.length cap) rfl (by kernel_rfl) (by kernel_rfl) (by kernel_rfl) (fun _ _ _ h => h) (Or.inl ⟨by rfl, by intro w hSw; (try dsimp only at hSw); go_simp⟩) (by assumption) rfl ?_
            simp only [Act.put, List.setIfInBounds_toArray, List.set_cons_zero, List.set_cons_succ]
            refine wpAnyH_takeD (i := 15) (d := 59) (v := .int .i64 (i : Int)) rfl (by kernel_rfl) (by kernel_rfl) (by kernel_rfl) (fun _ _ _ h => h) (Or.inl ⟨by rfl, by intro w hSw; (try dsimp only at hSw); go_simp⟩) (by assumption) rfl ?_
            simp only [Act.put, List.setIfInBounds_toArray, List.set_cons_zero, List.set_cons_succ]
            refine wpAnyH_takeD (i := 16) (d := 60) (v := .pointer (some ⟨b1, off1 + i * 2, none⟩)) rfl (by kernel_rfl) (by kernel_rfl) (by kernel_rfl) (fun _ _ _ h => h) (Or.inl ⟨by rfl, by intro w hSw; (try dsimp only at hSw); go_simp⟩) (by assumption) rfl ?_
            simp only [Act.put, List.setIfInBounds_toArray, List.set_cons_zero, List.set_cons_succ]
            refine wpAnyH_takeD (i := 17) (d := 61) (v := .pointer (some ⟨b1, off1 + i * 2 + 1, none⟩)) rfl (by kernel_rfl) (by kernel_rfl) (by kernel_rfl) (fun _ _ _ h => h) (Or.inl ⟨by rfl, by intro w hSw; (try dsimp only at hSw); go_simp⟩) (by assumption) rfl ?_
            simp only [Act.put, List.setIfInBounds_toArray, List.set_cons_zero, List.set_cons_succ]
            refine wpAnyH_takeD (i := 18) (d := 62) (v := .slice (some ⟨b2, off2, none⟩) es.length cape) rfl (by kernel_rfl) (by kernel_rfl) (by kernel_rfl) (fun _ _ _ h => h) (Or.inl ⟨by rfl, by intro w hSw; (try dsimp only at hSw); go_simp⟩) (by assumption) rfl ?_
            simp only [Act.put, List.setIfInBounds_toArray, List.set_cons_zero, List.set_cons_succ]
            refine wpAnyH_takeD (i := 19) (d := 63) (v := .int .i64 (k : Int)) rfl (by kernel_rfl) (by kernel_rfl) (by kernel_rfl) (fun _ _ _ h => h) (Or.inl ⟨by rfl, by intro w hSw; (try dsimp only at hSw); go_simp⟩) (by assumption) rfl ?_
            simp only [Act.put, List.setIfInBounds_toArray, List.set_cons_zero, List.set_cons_succ]
            refine wpAnyH_takeD (i := 20) (d := 64) (v := .pointer (some ⟨b2, off2 + k * 2, none⟩)) rfl (by kernel_rfl) (by kernel_rfl) (by kernel_rfl) (fun _ _ _ h => h) (Or.inl ⟨by rfl, by intro w hSw; (try dsimp only at hSw); go_simp⟩) (by assumption) rfl ?_
            simp only [Act.put, List.setIfInBounds_toArray, List.set_cons_zero, List.set_cons_succ]
            refine wpAnyH_takeD (i := 21) (d := 65) (v := .pointer (some ⟨b2, off2 + k * 2 + 1, none⟩)) rfl (by kernel_rfl) (by kernel_rfl) (by kernel_rfl) (fun _ _ _ h => h) (Or.inl ⟨by rfl, by intro w hSw; (try dsimp only at hSw); go_simp⟩) (by assumption) rfl ?_
            simp only [Act.put, List.setIfInBounds_toArray, List.set_cons_zero, List.set_cons_succ]
            refine wpAnyH_takeD (i := 22) (d := 66) (v := .int .i64 (q : Int)) rfl (by kernel_rfl) (by kernel_rfl) (by kernel_rfl) (fun _ _ _ h => h) (Or.inl ⟨by rfl, by intro w hSw; (try dsimp only at hSw); go_simp⟩) (by assumption) rfl ?_
            simp only [Act.put, List.setIfInBounds_toArray, List.set_cons_zero, List.set_cons_succ]
            refine wpAnyH_takeD (i := 23) (d := 67) (v := .int .i64 (i : Int)) rfl (by kernel_rfl) (by kernel_rfl) (by kernel_rfl) (fun _ _ _ h => h) (Or.inl ⟨by rfl, by intro w hSw; (try dsimp only at hSw); go_simp⟩) (by assumption) rfl ?_
            simp only [Act.put, List.setIfInBounds_toArray, List.set_cons_zero, List.set_cons_succ]
            refine wpAnyH_takeD (i := 24) (d := 68) (v := .int .i64 (nd : Int)) rfl (by kernel_rfl) (by kernel_rfl) (by kernel_rfl) (fun _ _ _ h => h) (Or.inl ⟨by rfl, by intro w hSw; (try dsimp only at hSw); go_simp⟩) (by assumption) rfl ?_
            simp only [Act.put, List.setIfInBounds_toArray, List.set_cons_zero, List.set_cons_succ]
            obtain ⟨wd, hwd⟩ : ∃ x, World.drew wr = x := ⟨_, rfl⟩
            have F0 : Hid (Below wr.heap.size wr wd) := by rw [← hwd]; exact (Below.refl _ _).drew
            rw [hwd]
            clear hwd
            have Z0 : Hid (wr.heap.size ≤ wd.heap.size) := F0.out.size
            have D0 : Hid (Below wr.heap.size wr wd) := F0.out
            clear F0
            refine wpAnyH_ready (rs := [11, 25]) (by kernel_rfl) (by simp) ?_
            refine AllReadyH.cons rfl (fun K hK => ?_) (AllReadyH.cons rfl (fun K hK => ?_) AllReadyH.nil)
            · skip
              go_simp
              obtain ⟨v1, hw⟩ : ∃ x, wd.alloc (.cells #[.int .u8 l] 5) = x := ⟨_, rfl⟩
              have hD : Below wd.heap.size wd v1 := by rw [← hw]; exact (Below.refl _ _).alloc (Nat.le_refl _) _
              have Z1 : Hid (wr.heap.size ≤ v1.heap.size) := Nat.le_trans Z0.out hD.size
              have D1 : Hid (Below wr.heap.size wr v1) := D0.out.trans (hD.mono Z0.out)
              obtain ⟨bb, hbb⟩ : ∃ x, wd.heap.size = x := ⟨_, rfl⟩
              have X1 : v1.cell? ⟨bb, 0, none⟩ = some (.int .u8 l) := by rw [← hbb, ← hw, cell_of_row _ _ 0 _ _ _ (heap_alloc_last wd _)]; rfl
              have Y1 : bb < v1.heap.size := by rw [← hbb, ← hw]; simp
              rw [hw, hbb]
              have c1_0 : v1.cell? ⟨b1, off1 + i * 2 + 1, none⟩ = some (.slice (some ⟨b2, off2, none⟩) es.length cape) := (D1.out.cell (p := ⟨b1, off1 + i * 2 + 1, none⟩) hb0).trans cc0
              have c1_1 : v1.cell? ⟨b2, off2 + k * 2, none⟩ = some (.int .i64 l) := (D1.out.cell (p := ⟨b2, off2 + k * 2, none⟩) hb1).trans cc1
              have c1_2 : v1.cell? ⟨b2, off2 + k * 2 + 1, none⟩ = some (.int .i64 (q : Int)) := (D1.out.cell (p := ⟨b2, off2 + k * 2 + 1, none⟩) hb2).trans cc2
              clear hw hbb hD
              refine hK.out _ _ ?_ (fun hHeld => ?_)
              · (first | go_keep | ((try dsimp only); go_keep))
              clear hK K
              try simp only [Act.put, List.setIfInBounds_toArray, List.set_cons_zero, List.set_cons_succ]
              refine wpAnyH_ready (rs := [12, 25]) (by kernel_rfl) (by simp) ?_
              refine AllReadyH.cons rfl (fun K hK => ?_) (AllReadyH.cons rfl (fun K hK => ?_) AllReadyH.nil)
              · skip
                have hcv := byte_of_cell (P := Try.prog) Try.underlying61 Try.underlying5 Try.underlying9 X1
                rw [HLB.out] at hcv
                go_simp
                clear hcv
                refine hK.out _ _ ?_ (fun hHeld => ?_)
                · (first | go_keep | ((try dsimp only); go_keep))
                clear hK K
                try simp only [Act.put, List.setIfInBounds_toArray, List.set_cons_zero, List.set_cons_succ]
                refine wpAnyH_takeD (i := 13) (d := 57) (v := .string U) rfl (by kernel_rfl) (by kernel_rfl) (by kernel_rfl) (fun _ _ _ h => h) (Or.inl ⟨by rfl, by intro w hSw; (try dsimp only at hSw); go_simp⟩) (by assumption) rfl ?_
                simp only [Act.put, List.setIfInBounds_toArray, List.set_cons_zero, List.set_cons_succ]
                refine wpAnyH_ready (rs := [25]) (by kernel_rfl) (by simp) ?_
                refine AllReadyH.cons rfl (fun K hK => ?_) AllReadyH.nil
                go_simp
                go_at_call 60
                refine (l12Bytes_any nd (by omega) _).mono ?_
                rintro e v2 ⟨rfl, hb9⟩
                rw [HNB.out]
                have Z2 : Hid (wr.heap.size ≤ v2.heap.size) := Nat.le_trans Z1.out hb9.size
                have D2 : Hid (Below wr.heap.size wr v2) := D1.out.trans (hb9.mono Z1.out)
                have c2_0 : v2.cell? ⟨b1, off1 + i * 2 + 1, none⟩ = some (.slice (some ⟨b2, off2, none⟩) es.length cape) := (D2.out.cell (p := ⟨b1, off1 + i * 2 + 1, none⟩) hb0).trans cc0
                have c2_1 : v2.cell? ⟨b2, off2 + k * 2, none⟩ = some (.int .i64 l) := (D2.out.cell (p := ⟨b2, off2 + k * 2, none⟩) hb1).trans cc1
                have c2_2 : v2.cell? ⟨b2, off2 + k * 2 + 1, none⟩ = some (.int .i64 (q : Int)) := (D2.out.cell (p := ⟨b2, off2 + k * 2 + 1, none⟩) hb2).trans cc2
                clear hb9
                refine hK.out _ _ ?_ (fun hHeld => ?_)
                · (first | go_keep | ((try dsimp only); go_keep))
                clear hK K
                try simp only [Act.put, List.setIfInBounds_toArray, List.set_cons_zero, List.set_cons_succ]
                refine wpAnyH_takeD (i := 26) (d := 70) (v := .string Y) rfl (by kernel_rfl) (by kernel_rfl) (by kernel_rfl) (fun _ _ _ h => h) (Or.inl ⟨by rfl, by intro w hSw; (try dsimp only at hSw); go_simp⟩) (by assumption) rfl ?_
                simp only [Act.put, List.setIfInBounds_toArray, List.set_cons_zero, List.set_cons_succ]
                refine wpAnyH_takeD (i := 27) (d := 3) (v := .string Y) rfl (by kernel_rfl) (by kernel_rfl) (by kernel_rfl) (fun _ _ _ h => h) (Or.inl ⟨by rfl, by intro w hSw; (try dsimp only at hSw); go_simp⟩) (by assumption) rfl ?_
                simp only [Act.put, List.setIfInBounds_toArray, List.set_cons_zero, List.set_cons_succ]
                refine wpAnyH_done (by kernel_rfl) ?_ _
                have HLi : Hid (Below wo.heap.size wo v2) := HBi.out.trans (D2.out.mono HBi.out.size)
                go_wp2
                go_roundw
                case rel => exact ⟨k + 1, by omega, by go_num, by rw [HY.out], HLi.out⟩
                case measure => simp [intOf]; omega
              · skip
                go_simp
                go_at_call 60
                refine (l12Bytes_any nd (by omega) _).mono ?_
                rintro e v2 ⟨rfl, hb9⟩
                rw [HNB.out]
                have Z2 : Hid (wr.heap.size ≤ v2.heap.size) := Nat.le_trans Z1.out hb9.size
                have D2 : Hid (Below wr.heap.size wr v2) := D1.out.trans (hb9.mono Z1.out)
                have X2 : v2.cell? ⟨bb, 0, none⟩ = some (.int .u8 l) := (hb9.cell (p := ⟨bb, 0, none⟩) Y1).trans X1
                have Y2 : bb < v2.heap.size := Nat.lt_of_lt_of_le Y1 hb9.size
                have c2_0 : v2.cell? ⟨b1, off1 + i * 2 + 1, none⟩ = some (.slice (some ⟨b2, off2, none⟩) es.length cape) := (D2.out.cell (p := ⟨b1, off1 + i * 2 + 1, none⟩) hb0).trans cc0
                have c2_1 : v2.cell? ⟨b2, off2 + k * 2, none⟩ = some (.int .i64 l) := (D2.out.cell (p := ⟨b2, off2 + k * 2, none⟩) hb1).trans cc1
                have c2_2 : v2.cell? ⟨b2, off2 + k * 2 + 1, none⟩ = some (.int .i64 (q : Int)) := (D2.out.cell (p := ⟨b2, off2 + k * 2 + 1, none⟩) hb2).trans cc2
                clear hb9
                refine hK.out _ _ ?_ (fun hHeld => ?_)
                · (first | go_keep | ((try dsimp only); go_keep))
                clear hK K
                try simp only [Act.put, List.setIfInBounds_toArray, List.set_cons_zero, List.set_cons_succ]
                refine wpAnyH_ready (rs := [12]) (by kernel_rfl) (by simp) ?_
                refine AllReadyH.cons rfl (fun K hK => ?_) AllReadyH.nil
                have hcv := byte_of_cell (P := Try.prog) Try.underlying61 Try.underlying5 Try.underlying9 X2
                rw [HLB.out] at hcv
                go_simp
                clear hcv
                refine hK.out _ _ ?_ (fun hHeld => ?_)
                · (first | go_keep | ((try dsimp only); go_keep))
                clear hK K
                try simp only [Act.put, List.setIfInBounds_toArray, List.set_cons_zero, List.set_cons_succ]
                refine wpAnyH_takeD (i := 13) (d := 57) (v := .string U) rfl (by kernel_rfl) (by kernel_rfl) (by kernel_rfl) (fun _ _ _ h => h) (Or.inl ⟨by rfl, by intro w hSw; (try dsimp only at hSw); go_simp⟩) (by assumption) rfl ?_
                simp only [Act.put, List.setIfInBounds_toArray, List.set_cons_zero, List.set_cons_succ]
                refine wpAnyH_takeD (i := 26) (d := 70) (v := .string Y) rfl (by kernel_rfl) (by kernel_rfl) (by kernel_rfl) (fun _ _ _ h => h) (Or.inl ⟨by rfl, by intro w hSw; (try dsimp only at hSw); go_simp⟩) (by assumption) rfl ?_
                simp only [Act.put, List.setIfInBounds_toArray, List.set_cons_zero, List.set_cons_succ]
                refine wpAnyH_takeD (i := 27) (d := 3) (v := .string Y) rfl (by kernel_rfl) (by kernel_rfl) (by kernel_rfl) (fun _ _ _ h => h) (Or.inl ⟨by rfl, by intro w hSw; (try dsimp only at hSw); go_simp⟩) (by assumption) rfl ?_
                simp only [Act.put, List.setIfInBounds_toArray, List.set_cons_zero, List.set_cons_succ]
                refine wpAnyH_done (by kernel_rfl) ?_ _
                have HLi : Hid (Below wo.heap.size wo v2) := HBi.out.trans (D2.out.mono HBi.out.size)
                go_wp2
                go_roundw
                case rel => exact ⟨k + 1, by omega, by go_num, by rw [HY.out], HLi.out⟩
                case measure => simp [intOf]; omega
            · skip
              go_simp
              go_at_call 60
              refine (l12Bytes_any nd (by omega) _).mono ?_
              rintro e v1 ⟨rfl, hb9⟩
              rw [HNB.out]
              have Z1 : Hid (wr.heap.size ≤ v1.heap.size) := Nat.le_trans Z0.out hb9.size
              have D1 : Hid (Below wr.heap.size wr v1) := D0.out.trans (hb9.mono Z0.out)
              have c1_0 : v1.cell? ⟨b1, off1 + i * 2 + 1, none⟩ = some (.slice (some ⟨b2, off2, none⟩) es.length cape) := (D1.out.cell (p := ⟨b1, off1 + i * 2 + 1, none⟩) hb0).trans cc0
              have c1_1 : v1.cell? ⟨b2, off2 + k * 2, none⟩ = some (.int .i64 l) := (D1.out.cell (p := ⟨b2, off2 + k * 2, none⟩) hb1).trans cc1
              have c1_2 : v1.cell? ⟨b2, off2 + k * 2 + 1, none⟩ = some (.int .i64 (q : Int)) := (D1.out.cell (p := ⟨b2, off2 + k * 2 + 1, none⟩) hb2).trans cc2
              clear hb9
              refine hK.out _ _ ?_ (fun hHeld => ?_)
              · (first | go_keep | ((try dsimp only); go_keep))
              clear hK K
              try simp only [Act.put, List.setIfInBounds_toArray, List.set_cons_zero, List.set_cons_succ]
              refine wpAnyH_ready (rs := [11]) (by kernel_rfl) (by simp) ?_
              refine AllReadyH.cons rfl (fun K hK => ?_) AllReadyH.nil
              go_simp
              obtain ⟨v2, hw⟩ : ∃ x, v1.alloc (.cells #[.int .u8 l] 5) = x := ⟨_, rfl⟩
              have hD : Below v1.heap.size v1 v2 := by rw [← hw]; exact (Below.refl _ _).alloc (Nat.le_refl _) _
              have Z2 : Hid (wr.heap.size ≤ v2.heap.size) := Nat.le_trans Z1.out hD.size
              have D2 : Hid (Below wr.heap.size wr v2) := D1.out.trans (hD.mono Z1.out)
              obtain ⟨bb, hbb⟩ : ∃ x, v1.heap.size = x := ⟨_, rfl⟩
              have X2 : v2.cell? ⟨bb, 0, none⟩ = some (.int .u8 l) := by rw [← hbb, ← hw, cell_of_row _ _ 0 _ _ _ (heap_alloc_last v1 _)]; rfl
              have Y2 : bb < v2.heap.size := by rw [← hbb, ← hw]; simp
              rw [hw, hbb]
              have c2_0 : v2.cell? ⟨b1, off1 + i * 2 + 1, none⟩ = some (.slice (some ⟨b2, off2, none⟩) es.length cape) := (D2.out.cell (p := ⟨b1, off1 + i * 2 + 1, none⟩) hb0).trans cc0
              have c2_1 : v2.cell? ⟨b2, off2 + k * 2, none⟩ = some (.int .i64 l) := (D2.out.cell (p := ⟨b2, off2 + k * 2, none⟩) hb1).trans cc1
              have c2_2 : v2.cell? ⟨b2, off2 + k * 2 + 1, none⟩ = some (.int .i64 (q : Int)) := (D2.out.cell (p := ⟨b2, off2 + k * 2 + 1, none⟩) hb2).trans cc2
              clear hw hbb hD
              refine hK.out _ _ ?_ (fun hHeld => ?_)
              · (first | go_keep | ((try dsimp only); go_keep))
              clear hK K
              try simp only [Act.put, List.setIfInBounds_toArray, List.set_cons_zero, List.set_cons_succ]
              refine wpAnyH_ready (rs := [12]) (by kernel_rfl) (by simp) ?_
              refine AllReadyH.cons rfl (fun K hK => ?_) AllReadyH.nil
              have hcv := byte_of_cell (P := Try.prog) Try.underlying61 Try.underlying5 Try.underlying9 X2
              rw [HLB.out] at hcv
              go_simp
              clear hcv
              refine hK.out _ _ ?_ (fun hHeld => ?_)
              · (first | go_keep | ((try dsimp only); go_keep))
              clear hK K
              try simp only [Act.put, List.setIfInBounds_toArray, List.set_cons_zero, List.set_cons_succ]
              refine wpAnyH_takeD (i := 13) (d := 57) (v := .string U) rfl (by kernel_rfl) (by kernel_rfl) (by kernel_rfl) (fun _ _ _ h => h) (Or.inl ⟨by rfl, by intro w hSw; (try dsimp only at hSw); go_simp⟩) (by assumption) rfl ?_
              simp only [Act.put, List.setIfInBounds_toArray, List.set_cons_zero, List.set_cons_succ]
              refine wpAnyH_takeD (i := 26) (d := 70) (v := .string Y) rfl (by kernel_rfl) (by kernel_rfl) (by kernel_rfl) (fun _ _ _ h => h) (Or.inl ⟨by rfl, by intro w hSw; (try dsimp only at hSw); go_simp⟩) (by assumption) rfl ?_
              simp only [Act.put, List.setIfInBounds_toArray, List.set_cons_zero, List.set_cons_succ]
              refine wpAnyH_takeD (i := 27) (d := 3) (v := .string Y) rfl (by kernel_rfl) (by kernel_rfl) (by kernel_rfl) (fun _ _ _ h => h) (Or.inl ⟨by rfl, by intro w hSw; (try dsimp only at hSw); go_simp⟩) (by assumption) rfl ?_
              simp only [Act.put, List.setIfInBounds_toArray, List.set_cons_zero, List.set_cons_succ]
              refine wpAnyH_done (by kernel_rfl) ?_ _
              have HLi : Hid (Below wo.heap.size wo v2) := HBi.out.trans (D2.out.mono HBi.out.size)
              go_wp2
              go_roundw
              case rel => exact ⟨k + 1, by omega, by go_num, by rw [HY.out], HLi.out⟩
              case measure => simp [intOf]; omega
          · have hke : k = es.length := by omega
            have HZ : Hid (X = bsT (NL ++ stsL ss (i + 1))) := by show _ = _; rw [← HXT.out, HNX.out, hke, List.take_length, ← HP0.out]; simp
            subst hke
            go_wp2
            go_roundw
            case rel => exact ⟨i + 1, by omega, by go_num, by rw [HZ.out], HBw.out⟩
            case measure => simp [intOf]; omega
      | false =>
        have hi0 : 2 * (es.length : Int) = (hd : Int) := by simp at hhd2; omega
        clear hhd2
        go_wp2_with fail
        refine (l12Bytes_any hd (by omega) _).mono ?_
        rintro e w2 ⟨rfl, hb2⟩
        rw [HHB.out]
        have HB2 : Hid (Below w.heap.size w w2) := HB.out.trans (hb2.mono HB.out.size)
        have HQ : Hid (Below wr.heap.size wr w2) := hb2
        have x2 : w2.cell? ⟨b1, off1 + i * 2 + 1, none⟩ = some (.slice ae es.length cape) := (hb2.cell (p := ⟨b1, off1 + i * 2 + 1, none⟩) hbl1).trans c2
        have hbw : b1 < w2.heap.size := Nat.lt_of_lt_of_le hbl1 hb2.size
        have HE2 : Hid (EdgesIn 0 w2 (.slice ae es.length cape) es) := HE.out.below hb2
        clear hb2 c1 c2
        go_wp2_with fail
        try rw [hap]
        obtain ⟨wo, hwo⟩ : ∃ x, x = w2 := ⟨_, rfl⟩
        subst hwo
        go_loopw [3, 6] (fun x j wr => ∃ (k : Nat), k ≤ es.length ∧ j = .int .i64 k ∧ x = .string (bsT (P0 ++ HB9 ++ edsL i (es.take k))) ∧ Below wo.heap.size wo wr) (fun _ j _ => es.length - (intOf j).toNat)
        case atStart => exact ⟨0, Nat.zero_le _, rfl, by simp [edsL], Below.refl _ _⟩
        case round =>
          obtain ⟨k, hk, rfl, rfl, hb⟩ := hrel
          have HBi : Hid (Below wo.heap.size wo wr) := hb
          have HBw : Hid (Below w.heap.size w wr) := HB2.out.trans (hb.mono HB2.out.size)
          have cc0 : wr.cell? ⟨b1, off1 + i * 2 + 1, none⟩ = some (.slice ae es.length cape) := (hb.cell (p := ⟨b1, off1 + i * 2 + 1, none⟩) hbw).trans x2
          have hb0 : b1 < wr.heap.size := Nat.lt_of_lt_of_le hbw hb.size
          clear hb
          obtain ⟨X, hX⟩ : ∃ X, bsT (P0 ++ HB9 ++ edsL i (es.take k)) = X := ⟨_, rfl⟩
          have HXT : Hid (bsT (P0 ++ HB9 ++ edsL i (es.take k)) = X) := hX
          have hXs : X.size ≤ 34000 := by rw [← hX, bsT_size, List.length_append, List.length_append]; have h2 := edsL_len i (es.take k); rw [List.length_take] at h2; omega
          rw [hX]
          clear hX
          by_cases hltk : k < es.length
          · obtain ⟨b2, off2, cap2, ed, hv2, _, _, hbl2, hed, cc1, cc2⟩ := (HE2.out.below HBi.out).at hltk
            cases hv2
            have hb4 := edsOk_at HED.out hed
            obtain ⟨l, t⟩ := ed
            simp only at cc1 cc2 hb4
            obtain ⟨q, rfl⟩ : ∃ q : Nat, t = (q : Int) := ⟨t.toNat, by omega⟩
            obtain ⟨nd, hnd⟩ : ∃ nd, q - i = nd := ⟨_, rfl⟩
            have hnd2 : IntKind.i64.wrap ((q : Int) - (i : Int)) = (nd : Int) := by rw [show (q : Int) - (i : Int) = (nd : Int) by omega]; exact IntWalk.i64_in _ (by omega)
            have hnd3 : nd ≤ 400 := by omega
            have HE3 : Hid (edsL i (es.take (k + 1)) = edsL i (es.take k) ++ (UInt8.ofNat l.toNat :: nbL nd)) := by show _ = _; rw [edsL_take hed]; unfold edL; rw [Int.toNat_natCast, hnd]
            have h8 : IntKind.u8.wrap l = l := by simp only [IntKind.wrap, IntKind.signed, IntKind.bits]; simp; omega
            obtain ⟨LB, hLB⟩ : ∃ x, bsT [UInt8.ofNat l.toNat] = x := ⟨_, rfl⟩
            have HLB : Hid (bsT [UInt8.ofNat l.toNat] = LB) := hLB
            have hLs : LB.size = 1 := by rw [← hLB, bsT_size]; rfl
            obtain ⟨NB, hNB⟩ : ∃ x, bsT (nbL nd) = x := ⟨_, rfl⟩
            have HNB : Hid (bsT (nbL nd) = NB) := hNB
            have hNs : NB.size ≤ 2 := by rw [← hNB, bsT_size]; exact nbL_len nd
            obtain ⟨U, hU⟩ : ∃ x, X ++ LB = x := ⟨_, rfl⟩
            have hUs : U.size ≤ 35000 := by rw [← hU, ByteArray.size_append]; omega
            obtain ⟨Y, hY⟩ : ∃ x, U ++ NB = x := ⟨_, rfl⟩
            have HY : Hid (bsT (P0 ++ HB9 ++ edsL i (es.take (k + 1))) = Y) := by show _ = _; rw [← hY, ← hU, ← hLB, ← hNB, ← HXT.out, bsT_app, bsT_app, HE3.out]; simp
            have r1 : ∀ w : World, (Op.stringOp .add X LB).run Try.prog w = .ok (.string U) w := fun w => by rw [run_string_add_sum w _ _ (by omega), hU]
            have r2 : ∀ w : World, (Op.stringOp .add U NB).run Try.prog w = .ok (.string Y) w := fun w => by rw [run_string_add_sum w _ _ (by omega), hY]
            have hlk : (k : Int) < es.length := by omega
            have hb1 := hbl2
            have hb2 := hbl2
            clear hLB hNB hU hY hed hnd
            go_wp2_with fail
            refine wp_region_held_drew (S := (fun w' => w'.cell? ⟨b1, off1 + i * 2 + 1, none⟩ = some (.slice (some ⟨b2, off2, none⟩) es.length cape) ∧ w'.cell? ⟨b2, off2 + k * 2, none⟩ = some (.int .i64 l) ∧ w'.cell? ⟨b2, off2 + k * 2 + 1, none⟩ = some (.int .i64 (q : Int)))) (by kernel_rfl) ?_ (fun hHeld => ?_)
            · (first | go_keep | ((try dsimp only); go_keep))
            refine wpAnyH_takeD (i := 0) (d := 44) (v := .string X) rfl (by kernel_rfl) (by kernel_rfl) (by kernel_rfl) (fun _ _ _ h => h) (Or.inl ⟨by rfl, by intro w hSw; (try dsimp only at hSw); go_simp⟩) (by assumption) rfl ?_
            simp only [Act.put, List.setIfInBounds_toArray, List.set_cons_zero, List.set_cons_succ]
            refine wpAnyH_takeD (i := 1) (d := 45) (v := .slice (some ⟨b1, off1, none⟩) ss.length cap) rfl (by kernel_rfl) (by kernel_rfl) (by kernel_rfl) (fun _ _ _ h => h) (Or.inl ⟨by rfl, by intro w hSw; (try dsimp only at hSw); go_simp⟩) (by assumption) rfl ?_
            simp only [Act.put, List.setIfInBounds_toArray, List.set_cons_zero, List.set_cons_succ]
            refine wpAnyH_takeD (i := 2) (d := 46) (v := .int .i64 (i : Int)) rfl (by kernel_rfl) (by kernel_rfl) (by kernel_rfl) (fun _ _ _ h => h) (Or.inl ⟨by rfl, by intro w hSw; (try dsimp only at hSw); go_simp⟩) (by assumption) rfl ?_
            simp only [Act.put, List.setIfInBounds_toArray, List.set_cons_zero, List.set_cons_succ]
            refine wpAnyH_takeD (i := 3) (d := 47) (v := .pointer (some ⟨b1, off1 + i * 2, none⟩)) rfl (by kernel_rfl) (by kernel_rfl) (by kernel_rfl) (fun _ _ _ h => h) (Or.inl ⟨by rfl, by intro w hSw; (try dsimp only at hSw); go_simp⟩) (by assumption) rfl ?_
            simp only [Act.put, List.setIfInBounds_toArray, List.set_cons_zero, List.set_cons_succ]
            refine wpAnyH_takeD (i := 4) (d := 48) (v := .pointer (some ⟨b1, off1 + i * 2 + 1, none⟩)) rfl (by kernel_rfl) (by kernel_rfl) (by kernel_rfl) (fun _ _ _ h => h) (Or.inl ⟨by rfl, by intro w hSw; (try dsimp only at hSw); go_simp⟩) (by assumption) rfl ?_
            simp only [Act.put, List.setIfInBounds_toArray, List.set_cons_zero, List.set_cons_succ]
            refine wpAnyH_takeD (i := 5) (d := 49) (v := .slice (some ⟨b2, off2, none⟩) es.length cape) rfl (by kernel_rfl) (by kernel_rfl) (by kernel_rfl) (fun _ _ _ h => h) (Or.inl ⟨by rfl, by intro w hSw; (try dsimp only at hSw); go_simp⟩) (by assumption) rfl ?_
            simp only [Act.put, List.setIfInBounds_toArray, List.set_cons_zero, List.set_cons_succ]
            refine wpAnyH_takeD (i := 6) (d := 50) (v := .int .i64 (k : Int)) rfl (by kernel_rfl) (by kernel_rfl) (by kernel_rfl) (fun _ _ _ h => h) (Or.inl ⟨by rfl, by intro w hSw; (try dsimp only at hSw); go_simp⟩) (by assumption) rfl ?_
            simp only [Act.put, List.setIfInBounds_toArray, List.set_cons_zero, List.set_cons_succ]
            refine wpAnyH_takeD (i := 7) (d := 51) (v := .pointer (some ⟨b2, off2 + k * 2, none⟩)) rfl (by kernel_rfl) (by kernel_rfl) (by kernel_rfl) (fun _ _ _ h => h) (Or.inl ⟨by rfl, by intro w hSw; (try dsimp only at hSw); go_simp⟩) (by assumption) rfl ?_
            simp only [Act.put, List.setIfInBounds_toArray, List.set_cons_zero, List.set_cons_succ]
            refine wpAnyH_takeD (i := 8) (d := 52) (v := .pointer (some ⟨b2, off2 + k * 2, none⟩)) rfl (by kernel_rfl) (by kernel_rfl) (by kernel_rfl) (fun _ _ _ h => h) (Or.inl ⟨by rfl, by intro w hSw; (try dsimp only at hSw); go_simp⟩) (by assumption) rfl ?_
            simp only [Act.put, List.setIfInBounds_toArray, List.set_cons_zero, List.set_cons_succ]
            refine wpAnyH_takeD (i := 9) (d := 53) (v := .int .i64 l) rfl (by kernel_rfl) (by kernel_rfl) (by kernel_rfl) (fun _ _ _ h => h) (Or.inl ⟨by rfl, by intro w hSw; (try dsimp only at hSw); go_simp⟩) (by assumption) rfl ?_
            simp only [Act.put, List.setIfInBounds_toArray, List.set_cons_zero, List.set_cons_succ]
            refine wpAnyH_takeD (i := 10) (d := 54) (v := .int .u8 l) rfl (by kernel_rfl) (by kernel_rfl) (by kernel_rfl) (fun _ _ _ h => h) (Or.inl ⟨by rfl, by intro w hSw; (try dsimp only at hSw); go_simp⟩) (by assumption) rfl ?_
            simp only [Act.put, List.setIfInBounds_toArray, List.set_cons_zero, List.set_cons_succ]
            refine wpAnyH_takeD (i := 14) (d := 58) (v := .slice (some ⟨b1, off1, none⟩) ss.length cap) rfl (by kernel_rfl) (by kernel_rfl) (by kernel_rfl) (fun _ _ _ h => h) (Or.inl ⟨by rfl, by intro w hSw; (try dsimp only at hSw); go_simp⟩) (by assumption) rfl ?_
            simp only [Act.put, List.setIfInBounds_toArray, List.set_cons_zero, List.set_cons_succ]
            refine wpAnyH_takeD (i := 15) (d := 59) (v := .int .i64 (i : Int)) rfl (by kernel_rfl) (by kernel_rfl) (by kernel_rfl) (fun _ _ _ h => h) (Or.inl ⟨by rfl, by intro w hSw; (try dsimp only at hSw); go_simp⟩) (by assumption) rfl ?_
            simp only [Act.put, List.setIfInBounds_toArray, List.set_cons_zero, List.set_cons_succ]
            refine wpAnyH_takeD (i := 16) (d := 60) (v := .pointer (some ⟨b1, off1 + i * 2, none⟩)) rfl (by kernel_rfl) (by kernel_rfl) (by kernel_rfl) (fun _ _ _ h => h) (Or.inl ⟨by rfl, by intro w hSw; (try dsimp only at hSw); go_simp⟩) (by assumption) rfl ?_
            simp only [Act.put, List.setIfInBounds_toArray, List.set_cons_zero, List.set_cons_succ]
            refine wpAnyH_takeD (i := 17) (d := 61) (v := .pointer (some ⟨b1, off1 + i * 2 + 1, none⟩)) rfl (by kernel_rfl) (by kernel_rfl) (by kernel_rfl) (fun _ _ _ h => h) (Or.inl ⟨by rfl, by intro w hSw; (try dsimp only at hSw); go_simp⟩) (by assumption) rfl ?_
            simp only [Act.put, List.setIfInBounds_toArray, List.set_cons_zero, List.set_cons_succ]
            refine wpAnyH_takeD (i := 18) (d := 62) (v := .slice (some ⟨b2, off2, none⟩) es.length cape) rfl (by kernel_rfl) (by kernel_rfl) (by kernel_rfl) (fun _ _ _ h => h) (Or.inl ⟨by rfl, by intro w hSw; (try dsimp only at hSw); go_simp⟩) (by assumption) rfl ?_
            simp only [Act.put, List.setIfInBounds_toArray, List.set_cons_zero, List.set_cons_succ]
            refine wpAnyH_takeD (i := 19) (d := 63) (v := .int .i64 (k : Int)) rfl (by kernel_rfl) (by kernel_rfl) (by kernel_rfl) (fun _ _ _ h => h) (Or.inl ⟨by rfl, by intro w hSw; (try dsimp only at hSw); go_simp⟩) (by assumption) rfl ?_
            simp only [Act.put, List.setIfInBounds_toArray, List.set_cons_zero, List.set_cons_succ]
            refine wpAnyH_takeD (i := 20) (d := 64) (v := .pointer (some ⟨b2, off2 + k * 2, none⟩)) rfl (by kernel_rfl) (by kernel_rfl) (by kernel_rfl) (fun _ _ _ h => h) (Or.inl ⟨by rfl, by intro w hSw; (try dsimp only at hSw); go_simp⟩) (by assumption) rfl ?_
            simp only [Act.put, List.setIfInBounds_toArray, List.set_cons_zero, List.set_cons_succ]
            refine wpAnyH_takeD (i := 21) (d := 65) (v := .pointer (some ⟨b2, off2 + k * 2 + 1, none⟩)) rfl (by kernel_rfl) (by kernel_rfl) (by kernel_rfl) (fun _ _ _ h => h) (Or.inl ⟨by rfl, by intro w hSw; (try dsimp only at hSw); go_simp⟩) (by assumption) rfl ?_
            simp only [Act.put, List.setIfInBounds_toArray, List.set_cons_zero, List.set_cons_succ]
            refine wpAnyH_takeD (i := 22) (d := 66) (v := .int .i64 (q : Int)) rfl (by kernel_rfl) (by kernel_rfl) (by kernel_rfl) (fun _ _ _ h => h) (Or.inl ⟨by rfl, by intro w hSw; (try dsimp only at hSw); go_simp⟩) (by assumption) rfl ?_
            simp only [Act.put, List.setIfInBounds_toArray, List.set_cons_zero, List.set_cons_succ]
            refine wpAnyH_takeD (i := 23) (d := 67) (v := .int .i64 (i : Int)) rfl (by kernel_rfl) (by kernel_rfl) (by kernel_rfl) (fun _ _ _ h => h) (Or.inl ⟨by rfl, by intro w hSw; (try dsimp only at hSw); go_simp⟩) (by assumption) rfl ?_
            simp only [Act.put, List.setIfInBounds_toArray, List.set_cons_zero, List.set_cons_succ]
            refine wpAnyH_takeD (i := 24) (d := 68) (v := .int .i64 (nd : Int)) rfl (by kernel_rfl) (by kernel_rfl) (by kernel_rfl) (fun _ _ _ h => h) (Or.inl ⟨by rfl, by intro w hSw; (try dsimp only at hSw); go_simp⟩) (by assumption) rfl ?_
            simp only [Act.put, List.setIfInBounds_toArray, List.set_cons_zero, List.set_cons_succ]
            obtain ⟨wd, hwd⟩ : ∃ x, World.drew wr = x := ⟨_, rfl⟩
            have F0 : Hid (Below wr.heap.size wr wd) := by rw [← hwd]; exact (Below.refl _ _).drew
            rw [hwd]
            clear hwd
            have Z0 : Hid (wr.heap.size ≤ wd.heap.size) := F0.out.size
            have D0 : Hid (Below wr.heap.size wr wd) := F0.out
            clear F0
            refine wpAnyH_ready (rs := [11, 25]) (by kernel_rfl) (by simp) ?_
            refine AllReadyH.cons rfl (fun K hK => ?_) (AllReadyH.cons rfl (fun K hK => ?_) AllReadyH.nil)
            · skip
              go_simp
              obtain ⟨v1, hw⟩ : ∃ x, wd.alloc (.cells #[.int .u8 l] 5) = x := ⟨_, rfl⟩
              have hD : Below wd.heap.size wd v1 := by rw [← hw]; exact (Below.refl _ _).alloc (Nat.le_refl _) _
              have Z1 : Hid (wr.heap.size ≤ v1.heap.size) := Nat.le_trans Z0.out hD.size
              have D1 : Hid (Below wr.heap.size wr v1) := D0.out.trans (hD.mono Z0.out)
              obtain ⟨bb, hbb⟩ : ∃ x, wd.heap.size = x := ⟨_, rfl⟩
              have X1 : v1.cell? ⟨bb, 0, none⟩ = some (.int .u8 l) := by rw [← hbb, ← hw, cell_of_row _ _ 0 _ _ _ (heap_alloc_last wd _)]; rfl
              have Y1 : bb < v1.heap.size := by rw [← hbb, ← hw]; simp
              rw [hw, hbb]
              have c1_0 : v1.cell? ⟨b1, off1 + i * 2 + 1, none⟩ = some (.slice (some ⟨b2, off2, none⟩) es.length cape) := (D1.out.cell (p := ⟨b1, off1 + i * 2 + 1, none⟩) hb0).trans cc0
              have c1_1 : v1.cell? ⟨b2, off2 + k * 2, none⟩ = some (.int .i64 l) := (D1.out.cell (p := ⟨b2, off2 + k * 2, none⟩) hb1).trans cc1
              have c1_2 : v1.cell? ⟨b2, off2 + k * 2 + 1, none⟩ = some (.int .i64 (q : Int)) := (D1.out.cell (p := ⟨b2, off2 + k * 2 + 1, none⟩) hb2).trans cc2
              clear hw hbb hD
              refine hK.out _ _ ?_ (fun hHeld => ?_)
              · (first | go_keep | ((try dsimp only); go_keep))
              clear hK K
              try simp only [Act.put, List.setIfInBounds_toArray, List.set_cons_zero, List.set_cons_succ]
              refine wpAnyH_ready (rs := [12, 25]) (by kernel_rfl) (by simp) ?_
              refine AllReadyH.cons rfl (fun K hK => ?_) (AllReadyH.cons rfl (fun K hK => ?_) AllReadyH.nil)
              · skip
                have hcv := byte_of_cell (P := Try.prog) Try.underlying61 Try.underlying5 Try.underlying9 X1
                rw [HLB.out] at hcv
                go_simp
                clear hcv
                refine hK.out _ _ ?_ (fun hHeld => ?_)
                · (first | go_keep | ((try dsimp only); go_keep))
                clear hK K
                try simp only [Act.put, List.setIfInBounds_toArray, List.set_cons_zero, List.set_cons_succ]
                refine wpAnyH_takeD (i := 13) (d := 57) (v := .string U) rfl (by kernel_rfl) (by kernel_rfl) (by kernel_rfl) (fun _ _ _ h => h) (Or.inl ⟨by rfl, by intro w hSw; (try dsimp only at hSw); go_simp⟩) (by assumption) rfl ?_
                simp only [Act.put, List.setIfInBounds_toArray, List.set_cons_zero, List.set_cons_succ]
                refine wpAnyH_ready (rs := [25]) (by kernel_rfl) (by simp) ?_
                refine AllReadyH.cons rfl (fun K hK => ?_) AllReadyH.nil
                go_simp
                go_at_call 60
                refine (l12Bytes_any nd (by omega) _).mono ?_
                rintro e v2 ⟨rfl, hb9⟩
                rw [HNB.out]
                have Z2 : Hid (wr.heap.size ≤ v2.heap.size) := Nat.le_trans Z1.out hb9.size
                have D2 : Hid (Below wr.heap.size wr v2) := D1.out.trans (hb9.mono Z1.out)
                have c2_0 : v2.cell? ⟨b1, off1 + i * 2 + 1, none⟩ = some (.slice (some ⟨b2, off2, none⟩) es.length cape) := (D2.out.cell (p := ⟨b1, off1 + i * 2 + 1, none⟩) hb0).trans cc0
                have c2_1 : v2.cell? ⟨b2, off2 + k * 2, none⟩ = some (.int .i64 l) := (D2.out.cell (p := ⟨b2, off2 + k * 2, none⟩) hb1).trans cc1
                have c2_2 : v2.cell? ⟨b2, off2 + k * 2 + 1, none⟩ = some (.int .i64 (q : Int)) := (D2.out.cell (p := ⟨b2, off2 + k * 2 + 1, none⟩) hb2).trans cc2
                clear hb9
                refine hK.out _ _ ?_ (fun hHeld => ?_)
                · (first | go_keep | ((try dsimp only); go_keep))
                clear hK K
                try simp only [Act.put, List.setIfInBounds_toArray, List.set_cons_zero, List.set_cons_succ]
                refine wpAnyH_takeD (i := 26) (d := 70) (v := .string Y) rfl (by kernel_rfl) (by kernel_rfl) (by kernel_rfl) (fun _ _ _ h => h) (Or.inl ⟨by rfl, by intro w hSw; (try dsimp only at hSw); go_simp⟩) (by assumption) rfl ?_
                simp only [Act.put, List.setIfInBounds_toArray, List.set_cons_zero, List.set_cons_succ]
                refine wpAnyH_takeD (i := 27) (d := 3) (v := .string Y) rfl (by kernel_rfl) (by kernel_rfl) (by kernel_rfl) (fun _ _ _ h => h) (Or.inl ⟨by rfl, by intro w hSw; (try dsimp only at hSw); go_simp⟩) (by assumption) rfl ?_
                simp only [Act.put, List.setIfInBounds_toArray, List.set_cons_zero, List.set_cons_succ]
                refine wpAnyH_done (by kernel_rfl) ?_ _
                have HLi : Hid (Below wo.heap.size wo v2) := HBi.out.trans (D2.out.mono HBi.out.size)
                go_wp2
                go_roundw
                case rel => exact ⟨k + 1, by omega, by go_num, by rw [HY.out], HLi.out⟩
                case measure => simp [intOf]; omega
              · skip
                go_simp
                go_at_call 60
                refine (l12Bytes_any nd (by omega) _).mono ?_
                rintro e v2 ⟨rfl, hb9⟩
                rw [HNB.out]
                have Z2 : Hid (wr.heap.size ≤ v2.heap.size) := Nat.le_trans Z1.out hb9.size
                have D2 : Hid (Below wr.heap.size wr v2) := D1.out.trans (hb9.mono Z1.out)
                have X2 : v2.cell? ⟨bb, 0, none⟩ = some (.int .u8 l) := (hb9.cell (p := ⟨bb, 0, none⟩) Y1).trans X1
                have Y2 : bb < v2.heap.size := Nat.lt_of_lt_of_le Y1 hb9.size
                have c2_0 : v2.cell? ⟨b1, off1 + i * 2 + 1, none⟩ = some (.slice (some ⟨b2, off2, none⟩) es.length cape) := (D2.out.cell (p := ⟨b1, off1 + i * 2 + 1, none⟩) hb0).trans cc0
                have c2_1 : v2.cell? ⟨b2, off2 + k * 2, none⟩ = some (.int .i64 l) := (D2.out.cell (p := ⟨b2, off2 + k * 2, none⟩) hb1).trans cc1
                have c2_2 : v2.cell? ⟨b2, off2 + k * 2 + 1, none⟩ = some (.int .i64 (q : Int)) := (D2.out.cell (p := ⟨b2, off2 + k * 2 + 1, none⟩) hb2).trans cc2
                clear hb9
                refine hK.out _ _ ?_ (fun hHeld => ?_)
                · (first | go_keep | ((try dsimp only); go_keep))
                clear hK K
                try simp only [Act.put, List.setIfInBounds_toArray, List.set_cons_zero, List.set_cons_succ]
                refine wpAnyH_ready (rs := [12]) (by kernel_rfl) (by simp) ?_
                refine AllReadyH.cons rfl (fun K hK => ?_) AllReadyH.nil
                have hcv := byte_of_cell (P := Try.prog) Try.underlying61 Try.underlying5 Try.underlying9 X2
                rw [HLB.out] at hcv
                go_simp
                clear hcv
                refine hK.out _ _ ?_ (fun hHeld => ?_)
                · (first | go_keep | ((try dsimp only); go_keep))
                clear hK K
                try simp only [Act.put, List.setIfInBounds_toArray, List.set_cons_zero, List.set_cons_succ]
                refine wpAnyH_takeD (i := 13) (d := 57) (v := .string U) rfl (by kernel_rfl) (by kernel_rfl) (by kernel_rfl) (fun _ _ _ h => h) (Or.inl ⟨by rfl, by intro w hSw; (try dsimp only at hSw); go_simp⟩) (by assumption) rfl ?_
                simp only [Act.put, List.setIfInBounds_toArray, List.set_cons_zero, List.set_cons_succ]
                refine wpAnyH_takeD (i := 26) (d := 70) (v := .string Y) rfl (by kernel_rfl) (by kernel_rfl) (by kernel_rfl) (fun _ _ _ h => h) (Or.inl ⟨by rfl, by intro w hSw; (try dsimp only at hSw); go_simp⟩) (by assumption) rfl ?_
                simp only [Act.put, List.setIfInBounds_toArray, List.set_cons_zero, List.set_cons_succ]
                refine wpAnyH_takeD (i := 27) (d := 3) (v := .string Y) rfl (by kernel_rfl) (by kernel_rfl) (by kernel_rfl) (fun _ _ _ h => h) (Or.inl ⟨by rfl, by intro w hSw; (try dsimp only at hSw); go_simp⟩) (by assumption) rfl ?_
                simp only [Act.put, List.setIfInBounds_toArray, List.set_cons_zero, List.set_cons_succ]
                refine wpAnyH_done (by kernel_rfl) ?_ _
                have HLi : Hid (Below wo.heap.size wo v2) := HBi.out.trans (D2.out.mono HBi.out.size)
                go_wp2
                go_roundw
                case rel => exact ⟨k + 1, by omega, by go_num, by rw [HY.out], HLi.out⟩
                case measure => simp [intOf]; omega
            · skip
              go_simp
              go_at_call 60
              refine (l12Bytes_any nd (by omega) _).mono ?_
              rintro e v1 ⟨rfl, hb9⟩
              rw [HNB.out]
              have Z1 : Hid (wr.heap.size ≤ v1.heap.size) := Nat.le_trans Z0.out hb9.size
              have D1 : Hid (Below wr.heap.size wr v1) := D0.out.trans (hb9.mono Z0.out)
              have c1_0 : v1.cell? ⟨b1, off1 + i * 2 + 1, none⟩ = some (.slice (some ⟨b2, off2, none⟩) es.length cape) := (D1.out.cell (p := ⟨b1, off1 + i * 2 + 1, none⟩) hb0).trans cc0
              have c1_1 : v1.cell? ⟨b2, off2 + k * 2, none⟩ = some (.int .i64 l) := (D1.out.cell (p := ⟨b2, off2 + k * 2, none⟩) hb1).trans cc1
              have c1_2 : v1.cell? ⟨b2, off2 + k * 2 + 1, none⟩ = some (.int .i64 (q : Int)) := (D1.out.cell (p := ⟨b2, off2 + k * 2 + 1, none⟩) hb2).trans cc2
              clear hb9
              refine hK.out _ _ ?_ (fun hHeld => ?_)
              · (first | go_keep | ((try dsimp only); go_keep))
              clear hK K
              try simp only [Act.put, List.setIfInBounds_toArray, List.set_cons_zero, List.set_cons_succ]
              refine wpAnyH_ready (rs := [11]) (by kernel_rfl) (by simp) ?_
              refine AllReadyH.cons rfl (fun K hK => ?_) AllReadyH.nil
              go_simp
              obtain ⟨v2, hw⟩ : ∃ x, v1.alloc (.cells #[.int .u8 l] 5) = x := ⟨_, rfl⟩
              have hD : Below v1.heap.size v1 v2 := by rw [← hw]; exact (Below.refl _ _).alloc (Nat.le_refl _) _
              have Z2 : Hid (wr.heap.size ≤ v2.heap.size) := Nat.le_trans Z1.out hD.size
              have D2 : Hid (Below wr.heap.size wr v2) := D1.out.trans (hD.mono Z1.out)
              obtain ⟨bb, hbb⟩ : ∃ x, v1.heap.size = x := ⟨_, rfl⟩
              have X2 : v2.cell? ⟨bb, 0, none⟩ = some (.int .u8 l) := by rw [← hbb, ← hw, cell_of_row _ _ 0 _ _ _ (heap_alloc_last v1 _)]; rfl
              have Y2 : bb < v2.heap.size := by rw [← hbb, ← hw]; simp
              rw [hw, hbb]
              have c2_0 : v2.cell? ⟨b1, off1 + i * 2 + 1, none⟩ = some (.slice (some ⟨b2, off2, none⟩) es.length cape) := (D2.out.cell (p := ⟨b1, off1 + i * 2 + 1, none⟩) hb0).trans cc0
              have c2_1 : v2.cell? ⟨b2, off2 + k * 2, none⟩ = some (.int .i64 l) := (D2.out.cell (p := ⟨b2, off2 + k * 2, none⟩) hb1).trans cc1
              have c2_2 : v2.cell? ⟨b2, off2 + k * 2 + 1, none⟩ = some (.int .i64 (q : Int)) := (D2.out.cell (p := ⟨b2, off2 + k * 2 + 1, none⟩) hb2).trans cc2
              clear hw hbb hD
              refine hK.out _ _ ?_ (fun hHeld => ?_)
              · (first | go_keep | ((try dsimp only); go_keep))
              clear hK K
              try simp only [Act.put, List.setIfInBounds_toArray, List.set_cons_zero, List.set_cons_succ]
              refine wpAnyH_ready (rs := [12]) (by kernel_rfl) (by simp) ?_
              refine AllReadyH.cons rfl (fun K hK => ?_) AllReadyH.nil
              have hcv := byte_of_cell (P := Try.prog) Try.underlying61 Try.underlying5 Try.underlying9 X2
              rw [HLB.out] at hcv
              go_simp
              clear hcv
              refine hK.out _ _ ?_ (fun hHeld => ?_)
              · (first | go_keep | ((try dsimp only); go_keep))
              clear hK K
              try simp only [Act.put, List.setIfInBounds_toArray, List.set_cons_zero, List.set_cons_succ]
              refine wpAnyH_takeD (i := 13) (d := 57) (v := .string U) rfl (by kernel_rfl) (by kernel_rfl) (by kernel_rfl) (fun _ _ _ h => h) (Or.inl ⟨by rfl, by intro w hSw; (try dsimp only at hSw); go_simp⟩) (by assumption) rfl ?_
              simp only [Act.put, List.setIfInBounds_toArray, List.set_cons_zero, List.set_cons_succ]
              refine wpAnyH_takeD (i := 26) (d := 70) (v := .string Y) rfl (by kernel_rfl) (by kernel_rfl) (by kernel_rfl) (fun _ _ _ h => h) (Or.inl ⟨by rfl, by intro w hSw; (try dsimp only at hSw); go_simp⟩) (by assumption) rfl ?_
              simp only [Act.put, List.setIfInBounds_toArray, List.set_cons_zero, List.set_cons_succ]
              refine wpAnyH_takeD (i := 27) (d := 3) (v := .string Y) rfl (by kernel_rfl) (by kernel_rfl) (by kernel_rfl) (fun _ _ _ h => h) (Or.inl ⟨by rfl, by intro w hSw; (try dsimp only at hSw); go_simp⟩) (by assumption) rfl ?_
              simp only [Act.put, List.setIfInBounds_toArray, List.set_cons_zero, List.set_cons_succ]
              refine wpAnyH_done (by kernel_rfl) ?_ _
              have HLi : Hid (Below wo.heap.size wo v2) := HBi.out.trans (D2.out.mono HBi.out.size)
              go_wp2
              go_roundw
              case rel => exact ⟨k + 1, by omega, by go_num, by rw [HY.out], HLi.out⟩
              case measure => simp [intOf]; omega
          · have hke : k = es.length := by omega
            have HZ : Hid (X = bsT (NL ++ stsL ss (i + 1))) := by show _ = _; rw [← HXT.out, HNX.out, hke, List.take_length, ← HP0.out]; simp
            subst hke
            go_wp2
            go_roundw
            case rel => exact ⟨i + 1, by omega, by go_num, by rw [HZ.out], HBw.out⟩
            case measure => simp [intOf]; omega
    · have hie : i = ss.length := by omega
      have HZ : Hid (bsT (NL ++ stsL ss i) = bsT (machL ss)) := by show _ = _; rw [HM.out, hie]
      rw [HZ.out]
      subst hie
      go_wp2
      go_ret
      exact ⟨rfl, HB.out⟩
end Go.Proofs.Ytbkjbkdmanaohaa
