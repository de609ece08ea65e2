/-
  The law FnExactRingTake.
-/
import Derived.Test.YtmphcglglnlplaaDoorGW485
import Derived.Deep.DeepCutAuto
import Derived.Deep.RegionHeld3
namespace Go.Proofs.YtmphcglglnlplaaDoor
open Go.RowKit
set_option linter.unusedVariables false
set_option maxRecDepth 100000 in
set_option maxHeartbeats 4000000 in
theorem fnExactRingTake_walk (va0 vn0 : Value) (ks0 : List ByteArray) (ns0 : List Int) (tk1 : ByteArray) (tf1 : Int) (ts1 : ByteArray) (w : World) (h0 : RingAt w (.agg #[va0, vn0]) (ks0, ns0)) (h1 : tk1.size ≤ maxLen) (h1x : (Lit.int .i64 tf1).wf = true) (h1y : ts1.size ≤ maxLen) (ht0 : powTab w) (ht1 : roundTab w) (ht2 : firstTab w) :
    Calls Tryd.prog 4 #[.agg #[va0, vn0], .agg #[.string tk1, .int .i64 tf1, .string ts1]] w fun e w' => e = .returned (.bool true) ∧ Below w.heap.size w w' := by
  have HA0 : Hid (RingAt w (.agg #[va0, vn0]) (ks0, ns0)) := h0
  clear h0
  have HE1 : Hid (tk1.size ≤ maxLen ∧ ts1.size ≤ maxLen) := ⟨h1, h1y⟩
  have TB0_0 : Hid (powTab w) := ht0
  clear ht0
  have TB1_0 : Hid (roundTab w) := ht1
  clear ht1
  have TB2_0 : Hid (firstTab w) := ht2
  clear ht2
  obtain ⟨L0, hL0⟩ : ∃ L, rtkT (ks0, ns0) (tk1, tf1, ts1) = L := ⟨_, rfl⟩
  obtain ⟨L1, hL1⟩ : ∃ L, rtkB (ks0, ns0) (tk1, tf1, ts1) = L := ⟨_, rfl⟩
  have HSM : Hid (RingSm L0) := by rw [← hL0]; exact rtk_small (x := (ks0, ns0)) (tk1, tf1, ts1)
  have HSP : Hid (∀ (w : World) (u0 : Value), RingAt w u0 (ks0, ns0) → Calls Tryd.prog 13 #[u0, .agg #[.string tk1, .int .i64 tf1, .string ts1]] w fun e w' => ∃ (qa0 : Option Addr) (qn0 qc0 : Nat) (qa1 : Option Addr) (qn1 qc1 : Nat), e = .returned (.tuple #[.agg #[.slice qa0 qn0 qc0, .slice qa1 qn1 qc1], .bool L1]) ∧ RingAt w' (.agg #[.slice qa0 qn0 qc0, .slice qa1 qn1 qc1]) L0 ∧ Below w.heap.size w w') := fun w u0 g0 => by
    rw [← hL0, ← hL1]
    refine Calls.mono (specRingTake_any w u0 (ks0, ns0) tk1 tf1 ts1 g0 h1) ?_
    rintro e w' ⟨v, rfl, h1, h2⟩
    obtain ⟨_, _, _, _, _, _, rfl⟩ := RingAt.form2 h1
    exact ⟨_, _, _, _, _, _, rfl, h1, h2⟩
  have HIM : Hid (∀ (w : World) (u0 : Value), RingAt w u0 (ks0, ns0) → powTab w → roundTab w → firstTab w → tk1.size ≤ 1048576 → Calls Tryd.prog 15 #[u0, .agg #[.string tk1, .int .i64 tf1, .string ts1]] w fun e w' => ∃ (qa0 : Option Addr) (qn0 qc0 : Nat) (qa1 : Option Addr) (qn1 qc1 : Nat), e = .returned (.tuple #[.agg #[.slice qa0 qn0 qc0, .slice qa1 qn1 qc1], .bool L1]) ∧ RingOwn w.heap.size w'.heap.size w' (.agg #[.slice qa0 qn0 qc0, .slice qa1 qn1 qc1]) L0 ∧ Below w.heap.size w w') := fun w u0 g0 t0 t1 t2 k1 => by
    rw [← hL0, ← hL1]
    refine Calls.mono (implRingTake_any w u0 (ks0, ns0) tk1 tf1 ts1 g0 (by have := k1; omega) (wf_bounds484 h1x).1 (wf_bounds484 h1x).2 t0 t1 t2) ?_
    rintro e w' ⟨v, rfl, h1, h2⟩
    obtain ⟨_, _, _, _, _, _, rfl⟩ := RingAt.form2 h1.at
    exact ⟨_, _, _, _, _, _, rfl, h1, h2⟩
  clear hL0 hL1
  go_enter Tryd.func4, Tryd.ntmps4
  go_wp2_with fail
  have HX0 : Hid (Below w.heap.size w ((w.alloc (.cells #[va0, vn0] 25)).alloc (.cells #[.string tk1, .int .i64 tf1, .string ts1] 36))) := (((Below.refl _ _).alloc (Nat.le_refl _) _).alloc (by simp <;> omega) _)
  refine (szRing_u _ _ (ks0, ns0) _ (HA0.out.below HX0.out) (by omega) (by omega)).mono ?_
  rintro e w1 ⟨⟨r0, rfl, hr0, hq0⟩, hb1⟩
  have HR0 : Hid (0 ≤ r0 → RingSm (ks0, ns0)) := hq0
  clear hq0
  have hh1 : Below w.heap.size w w1 := Below.trans HX0.out (Below.mono hb1 (Below.size HX0.out))
  have HB1 : Hid (Below w.heap.size w w1) := hh1
  have c1_0_0 : w1.cell? ⟨(w.heap.size), 0, none⟩ = some (va0) := (hb1.cell (p := ⟨(w.heap.size), 0, none⟩) (by simp <;> omega)).trans (by simp [go_sem])
  have c1_0_1 : w1.cell? ⟨(w.heap.size), 1, none⟩ = some (vn0) := (hb1.cell (p := ⟨(w.heap.size), 1, none⟩) (by simp <;> omega)).trans (by simp [go_sem])
  have hz1_0 : (w.heap.size) < w1.heap.size := by have := hb1.size; simp at this; omega
  have c1_1_0 : w1.cell? ⟨(w.heap.size + 1), 0, none⟩ = some (.string tk1) := (hb1.cell (p := ⟨(w.heap.size + 1), 0, none⟩) (by simp <;> omega)).trans (by simp [go_sem])
  have c1_1_1 : w1.cell? ⟨(w.heap.size + 1), 1, none⟩ = some (.int .i64 tf1) := (hb1.cell (p := ⟨(w.heap.size + 1), 1, none⟩) (by simp <;> omega)).trans (by simp [go_sem])
  have c1_1_2 : w1.cell? ⟨(w.heap.size + 1), 2, none⟩ = some (.string ts1) := (hb1.cell (p := ⟨(w.heap.size + 1), 2, none⟩) (by simp <;> omega)).trans (by simp [go_sem])
  have hz1_1 : (w.heap.size + 1) < w1.heap.size := by have := hb1.size; simp at this; omega
  have HZ1 : Hid (w.heap.size + 2 ≤ w1.heap.size) := by have := hb1.size; simp at this; show _ ≤ _; omega
  clear hb1 hh1
  by_cases hn0 : r0 < 0
  · go_wp2
    go_ret
    exact ⟨rfl, HB1.out⟩
  have HN0 : Hid (RingSm (ks0, ns0)) := HR0.out (by omega)
  go_wp2_with fail
  refine (szTurn_any tk1 tf1 ts1 _ _ HE1.out.1 HE1.out.2 (by omega) (by omega)).mono ?_
  rintro e w2 ⟨⟨r1, rfl, hr1, hq1⟩, hb2⟩
  have HR1 : Hid (0 ≤ r1 → tk1.size ≤ 1048576 ∧ ts1.size ≤ 1048576) := hq1
  clear hq1
  have hh2 : Below w1.heap.size w1 w2 := hb2
  have HB2 : Hid (Below w.heap.size w w2) := HB1.out.trans (hh2.mono HB1.out.size)
  have c2_0_0 := (hh2.cell (p := ⟨(w.heap.size), 0, none⟩) hz1_0).trans c1_0_0
  have c2_0_1 := (hh2.cell (p := ⟨(w.heap.size), 1, none⟩) hz1_0).trans c1_0_1
  have hz2_0 : (w.heap.size) < w2.heap.size := Nat.lt_of_lt_of_le hz1_0 hh2.size
  have c2_1_0 := (hh2.cell (p := ⟨(w.heap.size + 1), 0, none⟩) hz1_1).trans c1_1_0
  have c2_1_1 := (hh2.cell (p := ⟨(w.heap.size + 1), 1, none⟩) hz1_1).trans c1_1_1
  have c2_1_2 := (hh2.cell (p := ⟨(w.heap.size + 1), 2, none⟩) hz1_1).trans c1_1_2
  have hz2_1 : (w.heap.size + 1) < w2.heap.size := Nat.lt_of_lt_of_le hz1_1 hh2.size
  have HZ2 : Hid (w1.heap.size ≤ w2.heap.size) := hh2.size
  clear c1_0_0 c1_0_1 hz1_0 c1_1_0 c1_1_1 c1_1_2 hz1_1 hb2 hh2
  by_cases hn1 : r1 < 0
  · go_wp2
    go_ret
    exact ⟨rfl, HB2.out⟩
  have HN1 : Hid (tk1.size ≤ 1048576 ∧ ts1.size ≤ 1048576) := HR1.out (by omega)
  go_wp2_with fail
  go_cut [6, 7] (fun u v0 wx => ∃ (Q : Nat) (p0a0 : Option Addr) (p0n0 p0c0 : Nat) (p0a1 : Option Addr) (p0n1 p0c1 : Nat), u = .pointer (some ⟨Q, 0, none⟩) ∧ v0 = .bool L1 ∧ wx.heap[Q]? = some (.cells #[.slice p0a0 p0n0 p0c0, .slice p0a1 p0n1 p0c1] 31 (0, 0)) ∧ RingAt wx (.agg #[.slice p0a0 p0n0 p0c0, .slice p0a1 p0n1 p0c1]) L0 ∧ Below w2.heap.size w2 wx ∧ w2.heap.size ≤ Q)
  case first =>
    have HS9 : Hid ((Tryd.prog.info? 31).map (·.size) = some 2) := by show _ = _; kernel_rfl
    have HC9 : Hid (∀ V, Below w2.heap.size w2 V → V.cell? ⟨(w.heap.size), 0, none⟩ = some (va0) ∧ V.cell? ⟨(w.heap.size), 1, none⟩ = some (vn0) ∧ V.cell? ⟨(w.heap.size + 1), 0, none⟩ = some (.string tk1) ∧ V.cell? ⟨(w.heap.size + 1), 1, none⟩ = some (.int .i64 tf1) ∧ V.cell? ⟨(w.heap.size + 1), 2, none⟩ = some (.string ts1)) := fun V hV => ⟨(hV.cell (p := ⟨(w.heap.size), 0, none⟩) hz2_0).trans c2_0_0, (hV.cell (p := ⟨(w.heap.size), 1, none⟩) hz2_0).trans c2_0_1, (hV.cell (p := ⟨(w.heap.size + 1), 0, none⟩) hz2_1).trans c2_1_0, (hV.cell (p := ⟨(w.heap.size + 1), 1, none⟩) hz2_1).trans c2_1_1, (hV.cell (p := ⟨(w.heap.size + 1), 2, none⟩) hz2_1).trans c2_1_2⟩
    refine wp_region_held_drew (S := (fun w' => w'.cell? ⟨(w.heap.size), 0, none⟩ = some (va0) ∧ w'.cell? ⟨(w.heap.size), 1, none⟩ = some (vn0) ∧ w'.cell? ⟨(w.heap.size + 1), 0, none⟩ = some (.string tk1) ∧ w'.cell? ⟨(w.heap.size + 1), 1, none⟩ = some (.int .i64 tf1) ∧ w'.cell? ⟨(w.heap.size + 1), 2, none⟩ = some (.string ts1))) (by kernel_rfl) ?_ (fun hHeld => ?_)
    · exact HC9.out w2 (Below.refl _ _)
    refine wpAnyH_takeD (i := 0) (d := 27) (v := .agg #[va0, vn0]) rfl (by kernel_rfl) (by kernel_rfl) (by kernel_rfl) (fun _ _ _ h => h) (Or.inl ⟨by rfl, by intro w hSw; (try dsimp only at hSw); go_simp⟩) (by assumption) rfl ?_
    simp only [Act.put, List.setIfInBounds_toArray, List.set_cons_zero, List.set_cons_succ]
    refine wpAnyH_takeD (i := 2) (d := 29) (v := .agg #[.string tk1, .int .i64 tf1, .string ts1]) rfl (by kernel_rfl) (by kernel_rfl) (by kernel_rfl) (fun _ _ _ h => h) (Or.inl ⟨by rfl, by intro w hSw; (try dsimp only at hSw); go_simp⟩) (by assumption) rfl ?_
    simp only [Act.put, List.setIfInBounds_toArray, List.set_cons_zero, List.set_cons_succ]
    obtain ⟨x2_0, hx⟩ : ∃ X, World.drew w2 = X := ⟨_, rfl⟩
    have Kx2_0 : Hid (Below w2.heap.size w2 x2_0) := by show Below _ _ _; rw [← hx]; exact (Below.refl _ _).drew
    have Zx2_0 : Hid (w2.heap.size ≤ x2_0.heap.size) := Kx2_0.out.size
    rw [hx]
    clear hx c2_0_0 c2_0_1 c2_1_0 c2_1_1 c2_1_2
    refine wpAnyH_ready (rs := [1, 8]) (by kernel_rfl) (by simp) ?_
    refine AllReadyH.cons rfl (fun K hK => ?_) (AllReadyH.cons rfl (fun K hK => ?_) AllReadyH.nil)
    · skip
      go_simp
      refine (toRing_u _ _ (ks0, ns0) (HA0.out.below (HB2.out.trans (Kx2_0.out.mono HB2.out.size))) HN0.out).mono ?_
      rintro e x2_1 ⟨u0, rfl, ho, hb⟩
      have U0x2_1 : Hid (RingAt x2_1 u0 (ks0, ns0)) := ho.at
      clear ho
      have Zx2_1 : Hid (x2_0.heap.size ≤ x2_1.heap.size) := hb.size
      have Kx2_1 : Hid (Below w2.heap.size w2 x2_1) := Kx2_0.out.trans (hb.mono Kx2_0.out.size)
      clear hb
      refine hK.out _ _ ?_ (fun hHeld => ?_)
      · exact HC9.out _ Kx2_1.out
      clear hK K
      try simp only [Act.put, List.setIfInBounds_toArray, List.set_cons_zero, List.set_cons_succ]
      refine wpAnyH_ready (rs := [3, 8]) (by kernel_rfl) (by simp) ?_
      refine AllReadyH.cons rfl (fun K hK => ?_) (AllReadyH.cons rfl (fun K hK => ?_) AllReadyH.nil)
      · skip
        go_simp
        refine (toTurn_any tk1 tf1 ts1 _).mono ?_
        rintro e x2_2 ⟨rfl, hb⟩
        have Zx2_2 : Hid (x2_1.heap.size ≤ x2_2.heap.size) := hb.size
        have Kx2_2 : Hid (Below w2.heap.size w2 x2_2) := Kx2_1.out.trans (hb.mono Kx2_1.out.size)
        have U0x2_2 : Hid (RingAt x2_2 u0 (ks0, ns0)) := U0x2_1.out.below hb
        clear hb
        refine hK.out _ _ ?_ (fun hHeld => ?_)
        · exact HC9.out _ Kx2_2.out
        clear hK K
        try simp only [Act.put, List.setIfInBounds_toArray, List.set_cons_zero, List.set_cons_succ]
        refine wpAnyH_ready (rs := [4, 8]) (by kernel_rfl) (by simp) ?_
        refine AllReadyH.cons rfl (fun K hK => ?_) (AllReadyH.cons rfl (fun K hK => ?_) AllReadyH.nil)
        · skip
          go_simp
          refine (HSP.out _ _ U0x2_2.out).mono ?_
          rintro e x2_3 ⟨p0a0, p0n0, p0c0, p0a1, p0n1, p0c1, rfl, hg, hb⟩
          have Gx2_3 : Hid (RingAt x2_3 (.agg #[.slice p0a0 p0n0 p0c0, .slice p0a1 p0n1 p0c1]) L0) := hg
          clear hg
          have Zx2_3 : Hid (x2_2.heap.size ≤ x2_3.heap.size) := hb.size
          have Kx2_3 : Hid (Below w2.heap.size w2 x2_3) := Kx2_2.out.trans (hb.mono Kx2_2.out.size)
          have U0x2_3 : Hid (RingAt x2_3 u0 (ks0, ns0)) := U0x2_2.out.below hb
          clear hb
          refine hK.out _ _ ?_ (fun hHeld => ?_)
          · exact HC9.out _ Kx2_3.out
          clear hK K
          try simp only [Act.put, List.setIfInBounds_toArray, List.set_cons_zero, List.set_cons_succ]
          refine wpAnyH_takeD (i := 5) (d := 26) (v := .tuple #[.agg #[.slice p0a0 p0n0 p0c0, .slice p0a1 p0n1 p0c1], .bool L1]) rfl (by kernel_rfl) (by kernel_rfl) (by kernel_rfl) (fun _ _ _ h => h) (Or.inl ⟨by rfl, by intro w hSw; (try dsimp only at hSw); go_simp⟩) (by assumption) rfl ?_
          simp only [Act.put, List.setIfInBounds_toArray, List.set_cons_zero, List.set_cons_succ]
          refine wpAnyH_takeD (i := 6) (d := 32) (v := .agg #[.slice p0a0 p0n0 p0c0, .slice p0a1 p0n1 p0c1]) rfl (by kernel_rfl) (by kernel_rfl) (by kernel_rfl) (fun _ _ _ h => h) (Or.inl ⟨by rfl, by intro w hSw; (try dsimp only at hSw); go_simp⟩) (by assumption) rfl ?_
          simp only [Act.put, List.setIfInBounds_toArray, List.set_cons_zero, List.set_cons_succ]
          refine wpAnyH_takeD (i := 7) (d := 33) (v := .bool L1) rfl (by kernel_rfl) (by kernel_rfl) (by kernel_rfl) (fun _ _ _ h => h) (Or.inl ⟨by rfl, by intro w hSw; (try dsimp only at hSw); go_simp⟩) (by assumption) rfl ?_
          simp only [Act.put, List.setIfInBounds_toArray, List.set_cons_zero, List.set_cons_succ]
          refine wpAnyH_ready (rs := [8]) (by kernel_rfl) (by simp) ?_
          refine AllReadyH.cons rfl (fun K hK => ?_) AllReadyH.nil
          go_simp
          have NA : Hid ((x2_3.alloc (.cells #[.slice none 0 0, .slice none 0 0] 31)).heap[x2_3.heap.size]? = some (.cells #[.slice none 0 0, .slice none 0 0] 31 (0, 0))) := heap_alloc_last _ _
          obtain ⟨x2_4, hx⟩ : ∃ X, x2_3.alloc (.cells #[.slice none 0 0, .slice none 0 0] 31) = X := ⟨_, rfl⟩
          have hb : Below x2_3.heap.size x2_3 x2_4 := by rw [← hx]; exact (Below.refl _ _).alloc (Nat.le_refl _) _
          have Zx2_4 : Hid (x2_3.heap.size < x2_4.heap.size) := by show _ < _; rw [← hx]; simp
          have Nx2_4 : Hid (x2_4.heap[x2_3.heap.size]? = some (.cells #[.slice none 0 0, .slice none 0 0] 31 (0, 0))) := by show _ = _; rw [← hx]; exact NA.out
          have HQ : Hid (w2.heap.size ≤ x2_3.heap.size) := Kx2_3.out.size
          rw [hx]
          clear hx NA
          have Kx2_4 : Hid (Below w2.heap.size w2 x2_4) := Kx2_3.out.trans (hb.mono Kx2_3.out.size)
          have Gx2_4 : Hid (RingAt x2_4 (.agg #[.slice p0a0 p0n0 p0c0, .slice p0a1 p0n1 p0c1]) L0) := Gx2_3.out.below hb
          clear hb
          refine hK.out _ _ ?_ (fun hHeld => ?_)
          · exact HC9.out _ Kx2_4.out
          clear hK K
          try simp only [Act.put, List.setIfInBounds_toArray, List.set_cons_zero, List.set_cons_succ]
          refine wpAnyH_ready (rs := [9]) (by kernel_rfl) (by simp) ?_
          refine AllReadyH.cons rfl (fun K hK => ?_) AllReadyH.nil
          refine step_store_row rfl 31 (.tmp 6) (.tmp 32) rfl (x2_3.heap.size) #[.slice p0a0 p0n0 p0c0, .slice p0a1 p0n1 p0c1] rfl rfl 31 _ Nx2_4.out HS9.out rfl (by simp [Value.oneCell']) rfl ?_
          obtain ⟨V, hV⟩ : ∃ X, x2_4.setRow (x2_3.heap.size) #[.slice p0a0 p0n0 p0c0, .slice p0a1 p0n1 p0c1] = X := ⟨_, rfl⟩
          have KV : Hid (Below w2.heap.size w2 V) := by show Below _ _ _; rw [← hV]; exact below_setRow Kx2_4.out HQ.out _
          have NV : Hid (V.heap[x2_3.heap.size]? = some (.cells #[.slice p0a0 p0n0 p0c0, .slice p0a1 p0n1 p0c1] 31 (0, 0))) := by show _ = _; rw [← hV]; exact setRow_heap _ _ _ _ _ _ Nx2_4.out
          have zx2_0 := Zx2_0.out
          have zx2_1 := Zx2_1.out
          have zx2_2 := Zx2_2.out
          have zx2_3 := Zx2_3.out
          have zx2_4 := Zx2_4.out
          have hsV : V.heap.size = x2_4.heap.size := by rw [← hV]; simp
          have GV : Hid (RingAt V (.agg #[.slice p0a0 p0n0 p0c0, .slice p0a1 p0n1 p0c1]) L0) := by
            show RingAt _ _ _
            rw [← hV]
            exact ringAt_setRow484 Gx2_4.out Nx2_4.out _
          rw [hV]
          clear hV
          refine hK.out _ _ ?_ (fun hHeld => ?_)
          · exact HC9.out _ KV.out
          clear hK K
          try simp only [Act.put, List.setIfInBounds_toArray, List.set_cons_zero, List.set_cons_succ]
          refine wpAnyH_takeD (i := 10) (d := 7) (v := .bool L1) rfl (by kernel_rfl) (by kernel_rfl) (by kernel_rfl) (fun _ _ _ h => h) (Or.inl ⟨by rfl, by intro w hSw; (try dsimp only at hSw); go_simp⟩) (by assumption) rfl ?_
          simp only [Act.put, List.setIfInBounds_toArray, List.set_cons_zero, List.set_cons_succ]
          refine wpAnyH_done (by kernel_rfl) ?_ _
          go_wp2
          go_meet
          case rel =>
            exact ⟨_, _, _, _, _, _, _, rfl, rfl, NV.out, GV.out, KV.out, HQ.out⟩
        · skip
          go_simp
          have NA : Hid ((x2_2.alloc (.cells #[.slice none 0 0, .slice none 0 0] 31)).heap[x2_2.heap.size]? = some (.cells #[.slice none 0 0, .slice none 0 0] 31 (0, 0))) := heap_alloc_last _ _
          obtain ⟨x2_5, hx⟩ : ∃ X, x2_2.alloc (.cells #[.slice none 0 0, .slice none 0 0] 31) = X := ⟨_, rfl⟩
          have hb : Below x2_2.heap.size x2_2 x2_5 := by rw [← hx]; exact (Below.refl _ _).alloc (Nat.le_refl _) _
          have Zx2_5 : Hid (x2_2.heap.size < x2_5.heap.size) := by show _ < _; rw [← hx]; simp
          have Nx2_5 : Hid (x2_5.heap[x2_2.heap.size]? = some (.cells #[.slice none 0 0, .slice none 0 0] 31 (0, 0))) := by show _ = _; rw [← hx]; exact NA.out
          have HQ : Hid (w2.heap.size ≤ x2_2.heap.size) := Kx2_2.out.size
          rw [hx]
          clear hx NA
          have Kx2_5 : Hid (Below w2.heap.size w2 x2_5) := Kx2_2.out.trans (hb.mono Kx2_2.out.size)
          have U0x2_5 : Hid (RingAt x2_5 u0 (ks0, ns0)) := U0x2_2.out.below hb
          clear hb
          refine hK.out _ _ ?_ (fun hHeld => ?_)
          · exact HC9.out _ Kx2_5.out
          clear hK K
          try simp only [Act.put, List.setIfInBounds_toArray, List.set_cons_zero, List.set_cons_succ]
          refine wpAnyH_ready (rs := [4]) (by kernel_rfl) (by simp) ?_
          refine AllReadyH.cons rfl (fun K hK => ?_) AllReadyH.nil
          go_simp
          refine (HSP.out _ _ U0x2_5.out).mono ?_
          rintro e x2_6 ⟨p0a0, p0n0, p0c0, p0a1, p0n1, p0c1, rfl, hg, hb⟩
          have Gx2_6 : Hid (RingAt x2_6 (.agg #[.slice p0a0 p0n0 p0c0, .slice p0a1 p0n1 p0c1]) L0) := hg
          clear hg
          have Zx2_6 : Hid (x2_5.heap.size ≤ x2_6.heap.size) := hb.size
          have Kx2_6 : Hid (Below w2.heap.size w2 x2_6) := Kx2_5.out.trans (hb.mono Kx2_5.out.size)
          have Nx2_6 : Hid (x2_6.heap[x2_2.heap.size]? = some (.cells #[.slice none 0 0, .slice none 0 0] 31 (0, 0))) := (hb.block _ (Array.getElem?_eq_some_iff.1 Nx2_5.out).1).trans Nx2_5.out
          have U0x2_6 : Hid (RingAt x2_6 u0 (ks0, ns0)) := U0x2_5.out.below hb
          clear hb
          refine hK.out _ _ ?_ (fun hHeld => ?_)
          · exact HC9.out _ Kx2_6.out
          clear hK K
          try simp only [Act.put, List.setIfInBounds_toArray, List.set_cons_zero, List.set_cons_succ]
          refine wpAnyH_takeD (i := 5) (d := 26) (v := .tuple #[.agg #[.slice p0a0 p0n0 p0c0, .slice p0a1 p0n1 p0c1], .bool L1]) rfl (by kernel_rfl) (by kernel_rfl) (by kernel_rfl) (fun _ _ _ h => h) (Or.inl ⟨by rfl, by intro w hSw; (try dsimp only at hSw); go_simp⟩) (by assumption) rfl ?_
          simp only [Act.put, List.setIfInBounds_toArray, List.set_cons_zero, List.set_cons_succ]
          refine wpAnyH_takeD (i := 6) (d := 32) (v := .agg #[.slice p0a0 p0n0 p0c0, .slice p0a1 p0n1 p0c1]) rfl (by kernel_rfl) (by kernel_rfl) (by kernel_rfl) (fun _ _ _ h => h) (Or.inl ⟨by rfl, by intro w hSw; (try dsimp only at hSw); go_simp⟩) (by assumption) rfl ?_
          simp only [Act.put, List.setIfInBounds_toArray, List.set_cons_zero, List.set_cons_succ]
          refine wpAnyH_takeD (i := 7) (d := 33) (v := .bool L1) rfl (by kernel_rfl) (by kernel_rfl) (by kernel_rfl) (fun _ _ _ h => h) (Or.inl ⟨by rfl, by intro w hSw; (try dsimp only at hSw); go_simp⟩) (by assumption) rfl ?_
          simp only [Act.put, List.setIfInBounds_toArray, List.set_cons_zero, List.set_cons_succ]
          refine wpAnyH_ready (rs := [9]) (by kernel_rfl) (by simp) ?_
          refine AllReadyH.cons rfl (fun K hK => ?_) AllReadyH.nil
          refine step_store_row rfl 31 (.tmp 6) (.tmp 32) rfl (x2_2.heap.size) #[.slice p0a0 p0n0 p0c0, .slice p0a1 p0n1 p0c1] rfl rfl 31 _ Nx2_6.out HS9.out rfl (by simp [Value.oneCell']) rfl ?_
          obtain ⟨V, hV⟩ : ∃ X, x2_6.setRow (x2_2.heap.size) #[.slice p0a0 p0n0 p0c0, .slice p0a1 p0n1 p0c1] = X := ⟨_, rfl⟩
          have KV : Hid (Below w2.heap.size w2 V) := by show Below _ _ _; rw [← hV]; exact below_setRow Kx2_6.out HQ.out _
          have NV : Hid (V.heap[x2_2.heap.size]? = some (.cells #[.slice p0a0 p0n0 p0c0, .slice p0a1 p0n1 p0c1] 31 (0, 0))) := by show _ = _; rw [← hV]; exact setRow_heap _ _ _ _ _ _ Nx2_6.out
          have zx2_0 := Zx2_0.out
          have zx2_1 := Zx2_1.out
          have zx2_2 := Zx2_2.out
          have zx2_5 := Zx2_5.out
          have zx2_6 := Zx2_6.out
          have hsV : V.heap.size = x2_6.heap.size := by rw [← hV]; simp
          have GV : Hid (RingAt V (.agg #[.slice p0a0 p0n0 p0c0, .slice p0a1 p0n1 p0c1]) L0) := by
            show RingAt _ _ _
            rw [← hV]
            exact ringAt_setRow484 Gx2_6.out Nx2_6.out _
          rw [hV]
          clear hV
          refine hK.out _ _ ?_ (fun hHeld => ?_)
          · exact HC9.out _ KV.out
          clear hK K
          try simp only [Act.put, List.setIfInBounds_toArray, List.set_cons_zero, List.set_cons_succ]
          refine wpAnyH_takeD (i := 10) (d := 7) (v := .bool L1) rfl (by kernel_rfl) (by kernel_rfl) (by kernel_rfl) (fun _ _ _ h => h) (Or.inl ⟨by rfl, by intro w hSw; (try dsimp only at hSw); go_simp⟩) (by assumption) rfl ?_
          simp only [Act.put, List.setIfInBounds_toArray, List.set_cons_zero, List.set_cons_succ]
          refine wpAnyH_done (by kernel_rfl) ?_ _
          go_wp2
          go_meet
          case rel =>
            exact ⟨_, _, _, _, _, _, _, rfl, rfl, NV.out, GV.out, KV.out, HQ.out⟩
      · skip
        go_simp
        have NA : Hid ((x2_1.alloc (.cells #[.slice none 0 0, .slice none 0 0] 31)).heap[x2_1.heap.size]? = some (.cells #[.slice none 0 0, .slice none 0 0] 31 (0, 0))) := heap_alloc_last _ _
        obtain ⟨x2_7, hx⟩ : ∃ X, x2_1.alloc (.cells #[.slice none 0 0, .slice none 0 0] 31) = X := ⟨_, rfl⟩
        have hb : Below x2_1.heap.size x2_1 x2_7 := by rw [← hx]; exact (Below.refl _ _).alloc (Nat.le_refl _) _
        have Zx2_7 : Hid (x2_1.heap.size < x2_7.heap.size) := by show _ < _; rw [← hx]; simp
        have Nx2_7 : Hid (x2_7.heap[x2_1.heap.size]? = some (.cells #[.slice none 0 0, .slice none 0 0] 31 (0, 0))) := by show _ = _; rw [← hx]; exact NA.out
        have HQ : Hid (w2.heap.size ≤ x2_1.heap.size) := Kx2_1.out.size
        rw [hx]
        clear hx NA
        have Kx2_7 : Hid (Below w2.heap.size w2 x2_7) := Kx2_1.out.trans (hb.mono Kx2_1.out.size)
        have U0x2_7 : Hid (RingAt x2_7 u0 (ks0, ns0)) := U0x2_1.out.below hb
        clear hb
        refine hK.out _ _ ?_ (fun hHeld => ?_)
        · exact HC9.out _ Kx2_7.out
        clear hK K
        try simp only [Act.put, List.setIfInBounds_toArray, List.set_cons_zero, List.set_cons_succ]
        refine wpAnyH_ready (rs := [3]) (by kernel_rfl) (by simp) ?_
        refine AllReadyH.cons rfl (fun K hK => ?_) AllReadyH.nil
        go_simp
        refine (toTurn_any tk1 tf1 ts1 _).mono ?_
        rintro e x2_8 ⟨rfl, hb⟩
        have Zx2_8 : Hid (x2_7.heap.size ≤ x2_8.heap.size) := hb.size
        have Kx2_8 : Hid (Below w2.heap.size w2 x2_8) := Kx2_7.out.trans (hb.mono Kx2_7.out.size)
        have Nx2_8 : Hid (x2_8.heap[x2_1.heap.size]? = some (.cells #[.slice none 0 0, .slice none 0 0] 31 (0, 0))) := (hb.block _ (Array.getElem?_eq_some_iff.1 Nx2_7.out).1).trans Nx2_7.out
        have U0x2_8 : Hid (RingAt x2_8 u0 (ks0, ns0)) := U0x2_7.out.below hb
        clear hb
        refine hK.out _ _ ?_ (fun hHeld => ?_)
        · exact HC9.out _ Kx2_8.out
        clear hK K
        try simp only [Act.put, List.setIfInBounds_toArray, List.set_cons_zero, List.set_cons_succ]
        refine wpAnyH_ready (rs := [4]) (by kernel_rfl) (by simp) ?_
        refine AllReadyH.cons rfl (fun K hK => ?_) AllReadyH.nil
        go_simp
        refine (HSP.out _ _ U0x2_8.out).mono ?_
        rintro e x2_9 ⟨p0a0, p0n0, p0c0, p0a1, p0n1, p0c1, rfl, hg, hb⟩
        have Gx2_9 : Hid (RingAt x2_9 (.agg #[.slice p0a0 p0n0 p0c0, .slice p0a1 p0n1 p0c1]) L0) := hg
        clear hg
        have Zx2_9 : Hid (x2_8.heap.size ≤ x2_9.heap.size) := hb.size
        have Kx2_9 : Hid (Below w2.heap.size w2 x2_9) := Kx2_8.out.trans (hb.mono Kx2_8.out.size)
        have Nx2_9 : Hid (x2_9.heap[x2_1.heap.size]? = some (.cells #[.slice none 0 0, .slice none 0 0] 31 (0, 0))) := (hb.block _ (Array.getElem?_eq_some_iff.1 Nx2_8.out).1).trans Nx2_8.out
        have U0x2_9 : Hid (RingAt x2_9 u0 (ks0, ns0)) := U0x2_8.out.below hb
        clear hb
        refine hK.out _ _ ?_ (fun hHeld => ?_)
        · exact HC9.out _ Kx2_9.out
        clear hK K
        try simp only [Act.put, List.setIfInBounds_toArray, List.set_cons_zero, List.set_cons_succ]
        refine wpAnyH_takeD (i := 5) (d := 26) (v := .tuple #[.agg #[.slice p0a0 p0n0 p0c0, .slice p0a1 p0n1 p0c1], .bool L1]) rfl (by kernel_rfl) (by kernel_rfl) (by kernel_rfl) (fun _ _ _ h => h) (Or.inl ⟨by rfl, by intro w hSw; (try dsimp only at hSw); go_simp⟩) (by assumption) rfl ?_
        simp only [Act.put, List.setIfInBounds_toArray, List.set_cons_zero, List.set_cons_succ]
        refine wpAnyH_takeD (i := 6) (d := 32) (v := .agg #[.slice p0a0 p0n0 p0c0, .slice p0a1 p0n1 p0c1]) rfl (by kernel_rfl) (by kernel_rfl) (by kernel_rfl) (fun _ _ _ h => h) (Or.inl ⟨by rfl, by intro w hSw; (try dsimp only at hSw); go_simp⟩) (by assumption) rfl ?_
        simp only [Act.put, List.setIfInBounds_toArray, List.set_cons_zero, List.set_cons_succ]
        refine wpAnyH_takeD (i := 7) (d := 33) (v := .bool L1) rfl (by kernel_rfl) (by kernel_rfl) (by kernel_rfl) (fun _ _ _ h => h) (Or.inl ⟨by rfl, by intro w hSw; (try dsimp only at hSw); go_simp⟩) (by assumption) rfl ?_
        simp only [Act.put, List.setIfInBounds_toArray, List.set_cons_zero, List.set_cons_succ]
        refine wpAnyH_ready (rs := [9]) (by kernel_rfl) (by simp) ?_
        refine AllReadyH.cons rfl (fun K hK => ?_) AllReadyH.nil
        refine step_store_row rfl 31 (.tmp 6) (.tmp 32) rfl (x2_1.heap.size) #[.slice p0a0 p0n0 p0c0, .slice p0a1 p0n1 p0c1] rfl rfl 31 _ Nx2_9.out HS9.out rfl (by simp [Value.oneCell']) rfl ?_
        obtain ⟨V, hV⟩ : ∃ X, x2_9.setRow (x2_1.heap.size) #[.slice p0a0 p0n0 p0c0, .slice p0a1 p0n1 p0c1] = X := ⟨_, rfl⟩
        have KV : Hid (Below w2.heap.size w2 V) := by show Below _ _ _; rw [← hV]; exact below_setRow Kx2_9.out HQ.out _
        have NV : Hid (V.heap[x2_1.heap.size]? = some (.cells #[.slice p0a0 p0n0 p0c0, .slice p0a1 p0n1 p0c1] 31 (0, 0))) := by show _ = _; rw [← hV]; exact setRow_heap _ _ _ _ _ _ Nx2_9.out
        have zx2_0 := Zx2_0.out
        have zx2_1 := Zx2_1.out
        have zx2_7 := Zx2_7.out
        have zx2_8 := Zx2_8.out
        have zx2_9 := Zx2_9.out
        have hsV : V.heap.size = x2_9.heap.size := by rw [← hV]; simp
        have GV : Hid (RingAt V (.agg #[.slice p0a0 p0n0 p0c0, .slice p0a1 p0n1 p0c1]) L0) := by
          show RingAt _ _ _
          rw [← hV]
          exact ringAt_setRow484 Gx2_9.out Nx2_9.out _
        rw [hV]
        clear hV
        refine hK.out _ _ ?_ (fun hHeld => ?_)
        · exact HC9.out _ KV.out
        clear hK K
        try simp only [Act.put, List.setIfInBounds_toArray, List.set_cons_zero, List.set_cons_succ]
        refine wpAnyH_takeD (i := 10) (d := 7) (v := .bool L1) rfl (by kernel_rfl) (by kernel_rfl) (by kernel_rfl) (fun _ _ _ h => h) (Or.inl ⟨by rfl, by intro w hSw; (try dsimp only at hSw); go_simp⟩) (by assumption) rfl ?_
        simp only [Act.put, List.setIfInBounds_toArray, List.set_cons_zero, List.set_cons_succ]
        refine wpAnyH_done (by kernel_rfl) ?_ _
        go_wp2
        go_meet
        case rel =>
          exact ⟨_, _, _, _, _, _, _, rfl, rfl, NV.out, GV.out, KV.out, HQ.out⟩
    · skip
      go_simp
      have NA : Hid ((x2_0.alloc (.cells #[.slice none 0 0, .slice none 0 0] 31)).heap[x2_0.heap.size]? = some (.cells #[.slice none 0 0, .slice none 0 0] 31 (0, 0))) := heap_alloc_last _ _
      obtain ⟨x2_10, hx⟩ : ∃ X, x2_0.alloc (.cells #[.slice none 0 0, .slice none 0 0] 31) = X := ⟨_, rfl⟩
      have hb : Below x2_0.heap.size x2_0 x2_10 := by rw [← hx]; exact (Below.refl _ _).alloc (Nat.le_refl _) _
      have Zx2_10 : Hid (x2_0.heap.size < x2_10.heap.size) := by show _ < _; rw [← hx]; simp
      have Nx2_10 : Hid (x2_10.heap[x2_0.heap.size]? = some (.cells #[.slice none 0 0, .slice none 0 0] 31 (0, 0))) := by show _ = _; rw [← hx]; exact NA.out
      have HQ : Hid (w2.heap.size ≤ x2_0.heap.size) := Kx2_0.out.size
      rw [hx]
      clear hx NA
      have Kx2_10 : Hid (Below w2.heap.size w2 x2_10) := Kx2_0.out.trans (hb.mono Kx2_0.out.size)
      clear hb
      refine hK.out _ _ ?_ (fun hHeld => ?_)
      · exact HC9.out _ Kx2_10.out
      clear hK K
      try simp only [Act.put, List.setIfInBounds_toArray, List.set_cons_zero, List.set_cons_succ]
      refine wpAnyH_ready (rs := [1]) (by kernel_rfl) (by simp) ?_
      refine AllReadyH.cons rfl (fun K hK => ?_) AllReadyH.nil
      go_simp
      refine (toRing_u _ _ (ks0, ns0) (HA0.out.below (HB2.out.trans (Kx2_10.out.mono HB2.out.size))) HN0.out).mono ?_
      rintro e x2_11 ⟨u0, rfl, ho, hb⟩
      have U0x2_11 : Hid (RingAt x2_11 u0 (ks0, ns0)) := ho.at
      clear ho
      have Zx2_11 : Hid (x2_10.heap.size ≤ x2_11.heap.size) := hb.size
      have Kx2_11 : Hid (Below w2.heap.size w2 x2_11) := Kx2_10.out.trans (hb.mono Kx2_10.out.size)
      have Nx2_11 : Hid (x2_11.heap[x2_0.heap.size]? = some (.cells #[.slice none 0 0, .slice none 0 0] 31 (0, 0))) := (hb.block _ (Array.getElem?_eq_some_iff.1 Nx2_10.out).1).trans Nx2_10.out
      clear hb
      refine hK.out _ _ ?_ (fun hHeld => ?_)
      · exact HC9.out _ Kx2_11.out
      clear hK K
      try simp only [Act.put, List.setIfInBounds_toArray, List.set_cons_zero, List.set_cons_succ]
      refine wpAnyH_ready (rs := [3]) (by kernel_rfl) (by simp) ?_
      refine AllReadyH.cons rfl (fun K hK => ?_) AllReadyH.nil
      go_simp
      refine (toTurn_any tk1 tf1 ts1 _).mono ?_
      rintro e x2_12 ⟨rfl, hb⟩
      have Zx2_12 : Hid (x2_11.heap.size ≤ x2_12.heap.size) := hb.size
      have Kx2_12 : Hid (Below w2.heap.size w2 x2_12) := Kx2_11.out.trans (hb.mono Kx2_11.out.size)
      have Nx2_12 : Hid (x2_12.heap[x2_0.heap.size]? = some (.cells #[.slice none 0 0, .slice none 0 0] 31 (0, 0))) := (hb.block _ (Array.getElem?_eq_some_iff.1 Nx2_11.out).1).trans Nx2_11.out
      have U0x2_12 : Hid (RingAt x2_12 u0 (ks0, ns0)) := U0x2_11.out.below hb
      clear hb
      refine hK.out _ _ ?_ (fun hHeld => ?_)
      · exact HC9.out _ Kx2_12.out
      clear hK K
      try simp only [Act.put, List.setIfInBounds_toArray, List.set_cons_zero, List.set_cons_succ]
      refine wpAnyH_ready (rs := [4]) (by kernel_rfl) (by simp) ?_
      refine AllReadyH.cons rfl (fun K hK => ?_) AllReadyH.nil
      go_simp
      refine (HSP.out _ _ U0x2_12.out).mono ?_
      rintro e x2_13 ⟨p0a0, p0n0, p0c0, p0a1, p0n1, p0c1, rfl, hg, hb⟩
      have Gx2_13 : Hid (RingAt x2_13 (.agg #[.slice p0a0 p0n0 p0c0, .slice p0a1 p0n1 p0c1]) L0) := hg
      clear hg
      have Zx2_13 : Hid (x2_12.heap.size ≤ x2_13.heap.size) := hb.size
      have Kx2_13 : Hid (Below w2.heap.size w2 x2_13) := Kx2_12.out.trans (hb.mono Kx2_12.out.size)
      have Nx2_13 : Hid (x2_13.heap[x2_0.heap.size]? = some (.cells #[.slice none 0 0, .slice none 0 0] 31 (0, 0))) := (hb.block _ (Array.getElem?_eq_some_iff.1 Nx2_12.out).1).trans Nx2_12.out
      have U0x2_13 : Hid (RingAt x2_13 u0 (ks0, ns0)) := U0x2_12.out.below hb
      clear hb
      refine hK.out _ _ ?_ (fun hHeld => ?_)
      · exact HC9.out _ Kx2_13.out
      clear hK K
      try simp only [Act.put, List.setIfInBounds_toArray, List.set_cons_zero, List.set_cons_succ]
      refine wpAnyH_takeD (i := 5) (d := 26) (v := .tuple #[.agg #[.slice p0a0 p0n0 p0c0, .slice p0a1 p0n1 p0c1], .bool L1]) rfl (by kernel_rfl) (by kernel_rfl) (by kernel_rfl) (fun _ _ _ h => h) (Or.inl ⟨by rfl, by intro w hSw; (try dsimp only at hSw); go_simp⟩) (by assumption) rfl ?_
      simp only [Act.put, List.setIfInBounds_toArray, List.set_cons_zero, List.set_cons_succ]
      refine wpAnyH_takeD (i := 6) (d := 32) (v := .agg #[.slice p0a0 p0n0 p0c0, .slice p0a1 p0n1 p0c1]) rfl (by kernel_rfl) (by kernel_rfl) (by kernel_rfl) (fun _ _ _ h => h) (Or.inl ⟨by rfl, by intro w hSw; (try dsimp only at hSw); go_simp⟩) (by assumption) rfl ?_
      simp only [Act.put, List.setIfInBounds_toArray, List.set_cons_zero, List.set_cons_succ]
      refine wpAnyH_takeD (i := 7) (d := 33) (v := .bool L1) rfl (by kernel_rfl) (by kernel_rfl) (by kernel_rfl) (fun _ _ _ h => h) (Or.inl ⟨by rfl, by intro w hSw; (try dsimp only at hSw); go_simp⟩) (by assumption) rfl ?_
      simp only [Act.put, List.setIfInBounds_toArray, List.set_cons_zero, List.set_cons_succ]
      refine wpAnyH_ready (rs := [9]) (by kernel_rfl) (by simp) ?_
      refine AllReadyH.cons rfl (fun K hK => ?_) AllReadyH.nil
      refine step_store_row rfl 31 (.tmp 6) (.tmp 32) rfl (x2_0.heap.size) #[.slice p0a0 p0n0 p0c0, .slice p0a1 p0n1 p0c1] rfl rfl 31 _ Nx2_13.out HS9.out rfl (by simp [Value.oneCell']) rfl ?_
      obtain ⟨V, hV⟩ : ∃ X, x2_13.setRow (x2_0.heap.size) #[.slice p0a0 p0n0 p0c0, .slice p0a1 p0n1 p0c1] = X := ⟨_, rfl⟩
      have KV : Hid (Below w2.heap.size w2 V) := by show Below _ _ _; rw [← hV]; exact below_setRow Kx2_13.out HQ.out _
      have NV : Hid (V.heap[x2_0.heap.size]? = some (.cells #[.slice p0a0 p0n0 p0c0, .slice p0a1 p0n1 p0c1] 31 (0, 0))) := by show _ = _; rw [← hV]; exact setRow_heap _ _ _ _ _ _ Nx2_13.out
      have zx2_0 := Zx2_0.out
      have zx2_10 := Zx2_10.out
      have zx2_11 := Zx2_11.out
      have zx2_12 := Zx2_12.out
      have zx2_13 := Zx2_13.out
      have hsV : V.heap.size = x2_13.heap.size := by rw [← hV]; simp
      have GV : Hid (RingAt V (.agg #[.slice p0a0 p0n0 p0c0, .slice p0a1 p0n1 p0c1]) L0) := by
        show RingAt _ _ _
        rw [← hV]
        exact ringAt_setRow484 Gx2_13.out Nx2_13.out _
      rw [hV]
      clear hV
      refine hK.out _ _ ?_ (fun hHeld => ?_)
      · exact HC9.out _ KV.out
      clear hK K
      try simp only [Act.put, List.setIfInBounds_toArray, List.set_cons_zero, List.set_cons_succ]
      refine wpAnyH_takeD (i := 10) (d := 7) (v := .bool L1) rfl (by kernel_rfl) (by kernel_rfl) (by kernel_rfl) (fun _ _ _ h => h) (Or.inl ⟨by rfl, by intro w hSw; (try dsimp only at hSw); go_simp⟩) (by assumption) rfl ?_
      simp only [Act.put, List.setIfInBounds_toArray, List.set_cons_zero, List.set_cons_succ]
      refine wpAnyH_done (by kernel_rfl) ?_ _
      go_wp2
      go_meet
      case rel =>
        exact ⟨_, _, _, _, _, _, _, rfl, rfl, NV.out, GV.out, KV.out, HQ.out⟩
  case rest =>
    obtain ⟨w3, hw3⟩ : ∃ x, x = wc := ⟨_, rfl⟩
    subst hw3
    obtain ⟨B3, p0a0, p0n0, p0c0, p0a1, p0n1, p0c1, hp3, hv3_0, hr3, ha3, hh3, hl3⟩ := hcut
    subst hp3
    subst hv3_0
    have HB3 : Hid (Below w.heap.size w w3) := HB2.out.trans (hh3.mono HB2.out.size)
    have c3_0_0 := (hh3.cell (p := ⟨(w.heap.size), 0, none⟩) hz2_0).trans c2_0_0
    have c3_0_1 := (hh3.cell (p := ⟨(w.heap.size), 1, none⟩) hz2_0).trans c2_0_1
    have hz3_0 : (w.heap.size) < w3.heap.size := Nat.lt_of_lt_of_le hz2_0 hh3.size
    have c3_1_0 := (hh3.cell (p := ⟨(w.heap.size + 1), 0, none⟩) hz2_1).trans c2_1_0
    have c3_1_1 := (hh3.cell (p := ⟨(w.heap.size + 1), 1, none⟩) hz2_1).trans c2_1_1
    have c3_1_2 := (hh3.cell (p := ⟨(w.heap.size + 1), 2, none⟩) hz2_1).trans c2_1_2
    have hz3_1 : (w.heap.size + 1) < w3.heap.size := Nat.lt_of_lt_of_le hz2_1 hh3.size
    have c3_2_0 : w3.cell? ⟨B3, 0, none⟩ = some (.slice p0a0 p0n0 p0c0) := by rw [cell_of_row _ _ 0 _ _ _ hr3]; rfl
    have c3_2_1 : w3.cell? ⟨B3, 1, none⟩ = some (.slice p0a1 p0n1 p0c1) := by rw [cell_of_row _ _ 1 _ _ _ hr3]; rfl
    have hz3_2 : B3 < w3.heap.size := (Array.getElem?_eq_some_iff.1 hr3).1
    have HZ3 : Hid (w2.heap.size ≤ w3.heap.size ∧ w2.heap.size ≤ B3 ∧ B3 < w3.heap.size) := ⟨hh3.size, hl3, hz3_2⟩
    have HU : Hid (RingAt w3 (.agg #[.slice p0a0 p0n0 p0c0, .slice p0a1 p0n1 p0c1]) L0) := ha3
    clear c2_0_0 c2_0_1 hz2_0 c2_1_0 c2_1_1 c2_1_2 hz2_1 hh3 hr3 ha3 hl3
    go_wp2_with fail
    refine (toRing_u _ _ (ks0, ns0) (HA0.out.below HB3.out) HN0.out).mono ?_
    rintro e w4 ⟨y0, rfl, hu4, hb4⟩
    obtain ⟨y0a0, y0n0, y0c0, y0a1, y0n1, y0c1, rfl⟩ := RingAt.form2 hu4.at
    have hh4 : Below w3.heap.size w3 w4 := hb4
    have HB4 : Hid (Below w.heap.size w w4) := HB3.out.trans (hh4.mono HB3.out.size)
    have BC4 : Hid (Below w3.heap.size w3 w4) := hh4
    have c4_0_0 := (hh4.cell (p := ⟨(w.heap.size), 0, none⟩) hz3_0).trans c3_0_0
    have c4_0_1 := (hh4.cell (p := ⟨(w.heap.size), 1, none⟩) hz3_0).trans c3_0_1
    have hz4_0 : (w.heap.size) < w4.heap.size := Nat.lt_of_lt_of_le hz3_0 hh4.size
    have c4_1_0 := (hh4.cell (p := ⟨(w.heap.size + 1), 0, none⟩) hz3_1).trans c3_1_0
    have c4_1_1 := (hh4.cell (p := ⟨(w.heap.size + 1), 1, none⟩) hz3_1).trans c3_1_1
    have c4_1_2 := (hh4.cell (p := ⟨(w.heap.size + 1), 2, none⟩) hz3_1).trans c3_1_2
    have hz4_1 : (w.heap.size + 1) < w4.heap.size := Nat.lt_of_lt_of_le hz3_1 hh4.size
    have c4_2_0 := (hh4.cell (p := ⟨B3, 0, none⟩) hz3_2).trans c3_2_0
    have c4_2_1 := (hh4.cell (p := ⟨B3, 1, none⟩) hz3_2).trans c3_2_1
    have hz4_2 : B3 < w4.heap.size := Nat.lt_of_lt_of_le hz3_2 hh4.size
    have HZ4 : Hid (w3.heap.size ≤ w4.heap.size) := hh4.size
    clear c3_0_0 c3_0_1 hz3_0 c3_1_0 c3_1_1 c3_1_2 hz3_1 c3_2_0 c3_2_1 hz3_2 hb4 hh4
    have X0_4 : Hid (RingOwn (w3.heap.size) w4.heap.size w4 (.agg #[.slice y0a0 y0n0 y0c0, .slice y0a1 y0n1 y0c1]) (ks0, ns0)) := hu4
    clear hu4
    go_wp2_with fail
    have HX4 : Hid (Below w4.heap.size w4 (w4.alloc (.cells #[.slice y0a0 y0n0 y0c0, .slice y0a1 y0n1 y0c1] 31))) := ((Below.refl _ _).alloc (Nat.le_refl _) _)
    obtain ⟨w5, hV5⟩ : ∃ X, (w4.alloc (.cells #[.slice y0a0 y0n0 y0c0, .slice y0a1 y0n1 y0c1] 31)) = X := ⟨_, rfl⟩
    have hb5 : Below (w4.alloc (.cells #[.slice y0a0 y0n0 y0c0, .slice y0a1 y0n1 y0c1] 31)).heap.size (w4.alloc (.cells #[.slice y0a0 y0n0 y0c0, .slice y0a1 y0n1 y0c1] 31)) w5 := by rw [← hV5]; exact Below.refl _ _
    rw [hV5]
    clear hV5
    have hh5 : Below w4.heap.size w4 w5 := Below.trans HX4.out (Below.mono hb5 (Below.size HX4.out))
    have HB5 : Hid (Below w.heap.size w w5) := HB4.out.trans (hh5.mono HB4.out.size)
    have BC5 : Hid (Below w3.heap.size w3 w5) := BC4.out.trans (hh5.mono BC4.out.size)
    have c5_0_0 := (hh5.cell (p := ⟨(w.heap.size), 0, none⟩) hz4_0).trans c4_0_0
    have c5_0_1 := (hh5.cell (p := ⟨(w.heap.size), 1, none⟩) hz4_0).trans c4_0_1
    have hz5_0 : (w.heap.size) < w5.heap.size := Nat.lt_of_lt_of_le hz4_0 hh5.size
    have c5_1_0 := (hh5.cell (p := ⟨(w.heap.size + 1), 0, none⟩) hz4_1).trans c4_1_0
    have c5_1_1 := (hh5.cell (p := ⟨(w.heap.size + 1), 1, none⟩) hz4_1).trans c4_1_1
    have c5_1_2 := (hh5.cell (p := ⟨(w.heap.size + 1), 2, none⟩) hz4_1).trans c4_1_2
    have hz5_1 : (w.heap.size + 1) < w5.heap.size := Nat.lt_of_lt_of_le hz4_1 hh5.size
    have c5_2_0 := (hh5.cell (p := ⟨B3, 0, none⟩) hz4_2).trans c4_2_0
    have c5_2_1 := (hh5.cell (p := ⟨B3, 1, none⟩) hz4_2).trans c4_2_1
    have hz5_2 : B3 < w5.heap.size := Nat.lt_of_lt_of_le hz4_2 hh5.size
    have X0_5 : Hid (RingOwn (w3.heap.size) w4.heap.size w5 (.agg #[.slice y0a0 y0n0 y0c0, .slice y0a1 y0n1 y0c1]) (ks0, ns0)) := X0_4.out.below hh5
    have c5_3_0 : w5.cell? ⟨(w4.heap.size), 0, none⟩ = some (.slice y0a0 y0n0 y0c0) := (hb5.cell (p := ⟨(w4.heap.size), 0, none⟩) (by simp <;> omega)).trans (by simp [go_sem])
    have c5_3_1 : w5.cell? ⟨(w4.heap.size), 1, none⟩ = some (.slice y0a1 y0n1 y0c1) := (hb5.cell (p := ⟨(w4.heap.size), 1, none⟩) (by simp <;> omega)).trans (by simp [go_sem])
    have hz5_3 : (w4.heap.size) < w5.heap.size := by have := hb5.size; simp at this; omega
    have HZ5 : Hid (w4.heap.size + 1 ≤ w5.heap.size) := by have := hb5.size; simp at this; show _ ≤ _; omega
    clear c4_0_0 c4_0_1 hz4_0 c4_1_0 c4_1_1 c4_1_2 hz4_1 c4_2_0 c4_2_1 hz4_2 X0_4 hb5 hh5
    go_wp2_with fail
    go_cut [9, 10] (fun u v0 wx => ∃ (Q lo hi : Nat) (g0a0 : Option Addr) (g0n0 g0c0 : Nat) (g0a1 : Option Addr) (g0n1 g0c1 : Nat), u = .pointer (some ⟨Q, 0, none⟩) ∧ v0 = .bool L1 ∧ wx.heap[Q]? = some (.cells #[.slice g0a0 g0n0 g0c0, .slice g0a1 g0n1 g0c1] 31 (0, 0)) ∧ RingOwn lo hi wx (.agg #[.slice g0a0 g0n0 g0c0, .slice g0a1 g0n1 g0c1]) L0 ∧ w5.heap.size ≤ lo ∧ lo ≤ hi ∧ hi ≤ wx.heap.size ∧ (Q < lo ∨ hi ≤ Q) ∧ Below w5.heap.size w5 wx ∧ w5.heap.size ≤ Q)
    case first =>
      have HS9 : Hid ((Tryd.prog.info? 31).map (·.size) = some 2) := by show _ = _; kernel_rfl
      have HC9 : Hid (∀ V, Below w5.heap.size w5 V → V.cell? ⟨(w.heap.size), 0, none⟩ = some (va0) ∧ V.cell? ⟨(w.heap.size), 1, none⟩ = some (vn0) ∧ V.cell? ⟨(w.heap.size + 1), 0, none⟩ = some (.string tk1) ∧ V.cell? ⟨(w.heap.size + 1), 1, none⟩ = some (.int .i64 tf1) ∧ V.cell? ⟨(w.heap.size + 1), 2, none⟩ = some (.string ts1) ∧ V.cell? ⟨B3, 0, none⟩ = some (.slice p0a0 p0n0 p0c0) ∧ V.cell? ⟨B3, 1, none⟩ = some (.slice p0a1 p0n1 p0c1) ∧ V.cell? ⟨(w4.heap.size), 0, none⟩ = some (.slice y0a0 y0n0 y0c0) ∧ V.cell? ⟨(w4.heap.size), 1, none⟩ = some (.slice y0a1 y0n1 y0c1)) := fun V hV => ⟨(hV.cell (p := ⟨(w.heap.size), 0, none⟩) hz5_0).trans c5_0_0, (hV.cell (p := ⟨(w.heap.size), 1, none⟩) hz5_0).trans c5_0_1, (hV.cell (p := ⟨(w.heap.size + 1), 0, none⟩) hz5_1).trans c5_1_0, (hV.cell (p := ⟨(w.heap.size + 1), 1, none⟩) hz5_1).trans c5_1_1, (hV.cell (p := ⟨(w.heap.size + 1), 2, none⟩) hz5_1).trans c5_1_2, (hV.cell (p := ⟨B3, 0, none⟩) hz5_2).trans c5_2_0, (hV.cell (p := ⟨B3, 1, none⟩) hz5_2).trans c5_2_1, (hV.cell (p := ⟨(w4.heap.size), 0, none⟩) hz5_3).trans c5_3_0, (hV.cell (p := ⟨(w4.heap.size), 1, none⟩) hz5_3).trans c5_3_1⟩
      refine wp_region_held_drew (S := (fun w' => w'.cell? ⟨(w.heap.size), 0, none⟩ = some (va0) ∧ w'.cell? ⟨(w.heap.size), 1, none⟩ = some (vn0) ∧ w'.cell? ⟨(w.heap.size + 1), 0, none⟩ = some (.string tk1) ∧ w'.cell? ⟨(w.heap.size + 1), 1, none⟩ = some (.int .i64 tf1) ∧ w'.cell? ⟨(w.heap.size + 1), 2, none⟩ = some (.string ts1) ∧ w'.cell? ⟨B3, 0, none⟩ = some (.slice p0a0 p0n0 p0c0) ∧ w'.cell? ⟨B3, 1, none⟩ = some (.slice p0a1 p0n1 p0c1) ∧ w'.cell? ⟨(w4.heap.size), 0, none⟩ = some (.slice y0a0 y0n0 y0c0) ∧ w'.cell? ⟨(w4.heap.size), 1, none⟩ = some (.slice y0a1 y0n1 y0c1))) (by kernel_rfl) ?_ (fun hHeld => ?_)
      · exact HC9.out w5 (Below.refl _ _)
      refine wpAnyH_takeD (i := 0) (d := 37) (v := .agg #[.slice y0a0 y0n0 y0c0, .slice y0a1 y0n1 y0c1]) rfl (by kernel_rfl) (by kernel_rfl) (by kernel_rfl) (fun _ _ _ h => h) (Or.inl ⟨by rfl, by intro w hSw; (try dsimp only at hSw); go_simp⟩) (by assumption) rfl ?_
      simp only [Act.put, List.setIfInBounds_toArray, List.set_cons_zero, List.set_cons_succ]
      refine wpAnyH_takeD (i := 1) (d := 38) (v := .agg #[.string tk1, .int .i64 tf1, .string ts1]) rfl (by kernel_rfl) (by kernel_rfl) (by kernel_rfl) (fun _ _ _ h => h) (Or.inl ⟨by rfl, by intro w hSw; (try dsimp only at hSw); go_simp⟩) (by assumption) rfl ?_
      simp only [Act.put, List.setIfInBounds_toArray, List.set_cons_zero, List.set_cons_succ]
      obtain ⟨x5_0, hx⟩ : ∃ X, World.drew w5 = X := ⟨_, rfl⟩
      have Kx5_0 : Hid (Below w5.heap.size w5 x5_0) := by show Below _ _ _; rw [← hx]; exact (Below.refl _ _).drew
      have Zx5_0 : Hid (w5.heap.size ≤ x5_0.heap.size) := Kx5_0.out.size
      rw [hx]
      clear hx c5_0_0 c5_0_1 c5_1_0 c5_1_1 c5_1_2 c5_2_0 c5_2_1 c5_3_0 c5_3_1
      refine wpAnyH_ready (rs := [2, 7]) (by kernel_rfl) (by simp) ?_
      refine AllReadyH.cons rfl (fun K hK => ?_) (AllReadyH.cons rfl (fun K hK => ?_) AllReadyH.nil)
      · skip
        go_simp
        refine (toTurn_any tk1 tf1 ts1 _).mono ?_
        rintro e x5_1 ⟨rfl, hb⟩
        have Zx5_1 : Hid (x5_0.heap.size ≤ x5_1.heap.size) := hb.size
        have Kx5_1 : Hid (Below w5.heap.size w5 x5_1) := Kx5_0.out.trans (hb.mono Kx5_0.out.size)
        clear hb
        refine hK.out _ _ ?_ (fun hHeld => ?_)
        · exact HC9.out _ Kx5_1.out
        clear hK K
        try simp only [Act.put, List.setIfInBounds_toArray, List.set_cons_zero, List.set_cons_succ]
        refine wpAnyH_ready (rs := [3, 7]) (by kernel_rfl) (by simp) ?_
        refine AllReadyH.cons rfl (fun K hK => ?_) (AllReadyH.cons rfl (fun K hK => ?_) AllReadyH.nil)
        · skip
          go_simp
          refine (HIM.out _ _ (X0_5.out.below Kx5_1.out).at (TB0_0.out.below (HB5.out.trans (Kx5_1.out.mono HB5.out.size))) (TB1_0.out.below (HB5.out.trans (Kx5_1.out.mono HB5.out.size))) (TB2_0.out.below (HB5.out.trans (Kx5_1.out.mono HB5.out.size))) HN1.out.1).mono ?_
          rintro e x5_2 ⟨g0a0, g0n0, g0c0, g0a1, g0n1, g0c1, rfl, hg, hb⟩
          have Gx5_2 : Hid (RingOwn x5_1.heap.size x5_2.heap.size x5_2 (.agg #[.slice g0a0 g0n0 g0c0, .slice g0a1 g0n1 g0c1]) L0) := hg
          clear hg
          have Zx5_2 : Hid (x5_1.heap.size ≤ x5_2.heap.size) := hb.size
          have Kx5_2 : Hid (Below w5.heap.size w5 x5_2) := Kx5_1.out.trans (hb.mono Kx5_1.out.size)
          clear hb
          refine hK.out _ _ ?_ (fun hHeld => ?_)
          · exact HC9.out _ Kx5_2.out
          clear hK K
          try simp only [Act.put, List.setIfInBounds_toArray, List.set_cons_zero, List.set_cons_succ]
          refine wpAnyH_takeD (i := 4) (d := 36) (v := .tuple #[.agg #[.slice g0a0 g0n0 g0c0, .slice g0a1 g0n1 g0c1], .bool L1]) rfl (by kernel_rfl) (by kernel_rfl) (by kernel_rfl) (fun _ _ _ h => h) (Or.inl ⟨by rfl, by intro w hSw; (try dsimp only at hSw); go_simp⟩) (by assumption) rfl ?_
          simp only [Act.put, List.setIfInBounds_toArray, List.set_cons_zero, List.set_cons_succ]
          refine wpAnyH_takeD (i := 5) (d := 41) (v := .agg #[.slice g0a0 g0n0 g0c0, .slice g0a1 g0n1 g0c1]) rfl (by kernel_rfl) (by kernel_rfl) (by kernel_rfl) (fun _ _ _ h => h) (Or.inl ⟨by rfl, by intro w hSw; (try dsimp only at hSw); go_simp⟩) (by assumption) rfl ?_
          simp only [Act.put, List.setIfInBounds_toArray, List.set_cons_zero, List.set_cons_succ]
          refine wpAnyH_takeD (i := 6) (d := 42) (v := .bool L1) rfl (by kernel_rfl) (by kernel_rfl) (by kernel_rfl) (fun _ _ _ h => h) (Or.inl ⟨by rfl, by intro w hSw; (try dsimp only at hSw); go_simp⟩) (by assumption) rfl ?_
          simp only [Act.put, List.setIfInBounds_toArray, List.set_cons_zero, List.set_cons_succ]
          refine wpAnyH_ready (rs := [7]) (by kernel_rfl) (by simp) ?_
          refine AllReadyH.cons rfl (fun K hK => ?_) AllReadyH.nil
          go_simp
          have NA : Hid ((x5_2.alloc (.cells #[.slice none 0 0, .slice none 0 0] 31)).heap[x5_2.heap.size]? = some (.cells #[.slice none 0 0, .slice none 0 0] 31 (0, 0))) := heap_alloc_last _ _
          obtain ⟨x5_3, hx⟩ : ∃ X, x5_2.alloc (.cells #[.slice none 0 0, .slice none 0 0] 31) = X := ⟨_, rfl⟩
          have hb : Below x5_2.heap.size x5_2 x5_3 := by rw [← hx]; exact (Below.refl _ _).alloc (Nat.le_refl _) _
          have Zx5_3 : Hid (x5_2.heap.size < x5_3.heap.size) := by show _ < _; rw [← hx]; simp
          have Nx5_3 : Hid (x5_3.heap[x5_2.heap.size]? = some (.cells #[.slice none 0 0, .slice none 0 0] 31 (0, 0))) := by show _ = _; rw [← hx]; exact NA.out
          have HQ : Hid (w5.heap.size ≤ x5_2.heap.size) := Kx5_2.out.size
          rw [hx]
          clear hx NA
          have Kx5_3 : Hid (Below w5.heap.size w5 x5_3) := Kx5_2.out.trans (hb.mono Kx5_2.out.size)
          have Gx5_3 : Hid (RingOwn x5_1.heap.size x5_2.heap.size x5_3 (.agg #[.slice g0a0 g0n0 g0c0, .slice g0a1 g0n1 g0c1]) L0) := Gx5_2.out.below hb
          clear hb
          refine hK.out _ _ ?_ (fun hHeld => ?_)
          · exact HC9.out _ Kx5_3.out
          clear hK K
          try simp only [Act.put, List.setIfInBounds_toArray, List.set_cons_zero, List.set_cons_succ]
          refine wpAnyH_ready (rs := [8]) (by kernel_rfl) (by simp) ?_
          refine AllReadyH.cons rfl (fun K hK => ?_) AllReadyH.nil
          refine step_store_row rfl 31 (.tmp 9) (.tmp 41) rfl (x5_2.heap.size) #[.slice g0a0 g0n0 g0c0, .slice g0a1 g0n1 g0c1] rfl rfl 31 _ Nx5_3.out HS9.out rfl (by simp [Value.oneCell']) rfl ?_
          obtain ⟨V, hV⟩ : ∃ X, x5_3.setRow (x5_2.heap.size) #[.slice g0a0 g0n0 g0c0, .slice g0a1 g0n1 g0c1] = X := ⟨_, rfl⟩
          have KV : Hid (Below w5.heap.size w5 V) := by show Below _ _ _; rw [← hV]; exact below_setRow Kx5_3.out HQ.out _
          have NV : Hid (V.heap[x5_2.heap.size]? = some (.cells #[.slice g0a0 g0n0 g0c0, .slice g0a1 g0n1 g0c1] 31 (0, 0))) := by show _ = _; rw [← hV]; exact setRow_heap _ _ _ _ _ _ Nx5_3.out
          have zx5_0 := Zx5_0.out
          have zx5_1 := Zx5_1.out
          have zx5_2 := Zx5_2.out
          have zx5_3 := Zx5_3.out
          have hsV : V.heap.size = x5_3.heap.size := by rw [← hV]; simp
          have GV : Hid (RingOwn x5_1.heap.size x5_2.heap.size V (.agg #[.slice g0a0 g0n0 g0c0, .slice g0a1 g0n1 g0c1]) L0) := by
            show RingOwn _ _ _ _ _
            rw [← hV]
            exact ringOwn_setRow485 Gx5_3.out (q := x5_2.heap.size) (by omega) _
          rw [hV]
          clear hV
          refine hK.out _ _ ?_ (fun hHeld => ?_)
          · exact HC9.out _ KV.out
          clear hK K
          try simp only [Act.put, List.setIfInBounds_toArray, List.set_cons_zero, List.set_cons_succ]
          refine wpAnyH_takeD (i := 9) (d := 10) (v := .bool L1) rfl (by kernel_rfl) (by kernel_rfl) (by kernel_rfl) (fun _ _ _ h => h) (Or.inl ⟨by rfl, by intro w hSw; (try dsimp only at hSw); go_simp⟩) (by assumption) rfl ?_
          simp only [Act.put, List.setIfInBounds_toArray, List.set_cons_zero, List.set_cons_succ]
          refine wpAnyH_done (by kernel_rfl) ?_ _
          go_wp2
          go_meet
          case rel =>
            exact ⟨_, _, _, _, _, _, _, _, _, rfl, rfl, NV.out, GV.out, by omega, by omega, by omega, by omega, KV.out, HQ.out⟩
        · skip
          go_simp
          have NA : Hid ((x5_1.alloc (.cells #[.slice none 0 0, .slice none 0 0] 31)).heap[x5_1.heap.size]? = some (.cells #[.slice none 0 0, .slice none 0 0] 31 (0, 0))) := heap_alloc_last _ _
          obtain ⟨x5_4, hx⟩ : ∃ X, x5_1.alloc (.cells #[.slice none 0 0, .slice none 0 0] 31) = X := ⟨_, rfl⟩
          have hb : Below x5_1.heap.size x5_1 x5_4 := by rw [← hx]; exact (Below.refl _ _).alloc (Nat.le_refl _) _
          have Zx5_4 : Hid (x5_1.heap.size < x5_4.heap.size) := by show _ < _; rw [← hx]; simp
          have Nx5_4 : Hid (x5_4.heap[x5_1.heap.size]? = some (.cells #[.slice none 0 0, .slice none 0 0] 31 (0, 0))) := by show _ = _; rw [← hx]; exact NA.out
          have HQ : Hid (w5.heap.size ≤ x5_1.heap.size) := Kx5_1.out.size
          rw [hx]
          clear hx NA
          have Kx5_4 : Hid (Below w5.heap.size w5 x5_4) := Kx5_1.out.trans (hb.mono Kx5_1.out.size)
          clear hb
          refine hK.out _ _ ?_ (fun hHeld => ?_)
          · exact HC9.out _ Kx5_4.out
          clear hK K
          try simp only [Act.put, List.setIfInBounds_toArray, List.set_cons_zero, List.set_cons_succ]
          refine wpAnyH_ready (rs := [3]) (by kernel_rfl) (by simp) ?_
          refine AllReadyH.cons rfl (fun K hK => ?_) AllReadyH.nil
          go_simp
          refine (HIM.out _ _ (X0_5.out.below Kx5_4.out).at (TB0_0.out.below (HB5.out.trans (Kx5_4.out.mono HB5.out.size))) (TB1_0.out.below (HB5.out.trans (Kx5_4.out.mono HB5.out.size))) (TB2_0.out.below (HB5.out.trans (Kx5_4.out.mono HB5.out.size))) HN1.out.1).mono ?_
          rintro e x5_5 ⟨g0a0, g0n0, g0c0, g0a1, g0n1, g0c1, rfl, hg, hb⟩
          have Gx5_5 : Hid (RingOwn x5_4.heap.size x5_5.heap.size x5_5 (.agg #[.slice g0a0 g0n0 g0c0, .slice g0a1 g0n1 g0c1]) L0) := hg
          clear hg
          have Zx5_5 : Hid (x5_4.heap.size ≤ x5_5.heap.size) := hb.size
          have Kx5_5 : Hid (Below w5.heap.size w5 x5_5) := Kx5_4.out.trans (hb.mono Kx5_4.out.size)
          have Nx5_5 : Hid (x5_5.heap[x5_1.heap.size]? = some (.cells #[.slice none 0 0, .slice none 0 0] 31 (0, 0))) := (hb.block _ (Array.getElem?_eq_some_iff.1 Nx5_4.out).1).trans Nx5_4.out
          clear hb
          refine hK.out _ _ ?_ (fun hHeld => ?_)
          · exact HC9.out _ Kx5_5.out
          clear hK K
          try simp only [Act.put, List.setIfInBounds_toArray, List.set_cons_zero, List.set_cons_succ]
          refine wpAnyH_takeD (i := 4) (d := 36) (v := .tuple #[.agg #[.slice g0a0 g0n0 g0c0, .slice g0a1 g0n1 g0c1], .bool L1]) rfl (by kernel_rfl) (by kernel_rfl) (by kernel_rfl) (fun _ _ _ h => h) (Or.inl ⟨by rfl, by intro w hSw; (try dsimp only at hSw); go_simp⟩) (by assumption) rfl ?_
          simp only [Act.put, List.setIfInBounds_toArray, List.set_cons_zero, List.set_cons_succ]
          refine wpAnyH_takeD (i := 5) (d := 41) (v := .agg #[.slice g0a0 g0n0 g0c0, .slice g0a1 g0n1 g0c1]) rfl (by kernel_rfl) (by kernel_rfl) (by kernel_rfl) (fun _ _ _ h => h) (Or.inl ⟨by rfl, by intro w hSw; (try dsimp only at hSw); go_simp⟩) (by assumption) rfl ?_
          simp only [Act.put, List.setIfInBounds_toArray, List.set_cons_zero, List.set_cons_succ]
          refine wpAnyH_takeD (i := 6) (d := 42) (v := .bool L1) rfl (by kernel_rfl) (by kernel_rfl) (by kernel_rfl) (fun _ _ _ h => h) (Or.inl ⟨by rfl, by intro w hSw; (try dsimp only at hSw); go_simp⟩) (by assumption) rfl ?_
          simp only [Act.put, List.setIfInBounds_toArray, List.set_cons_zero, List.set_cons_succ]
          refine wpAnyH_ready (rs := [8]) (by kernel_rfl) (by simp) ?_
          refine AllReadyH.cons rfl (fun K hK => ?_) AllReadyH.nil
          refine step_store_row rfl 31 (.tmp 9) (.tmp 41) rfl (x5_1.heap.size) #[.slice g0a0 g0n0 g0c0, .slice g0a1 g0n1 g0c1] rfl rfl 31 _ Nx5_5.out HS9.out rfl (by simp [Value.oneCell']) rfl ?_
          obtain ⟨V, hV⟩ : ∃ X, x5_5.setRow (x5_1.heap.size) #[.slice g0a0 g0n0 g0c0, .slice g0a1 g0n1 g0c1] = X := ⟨_, rfl⟩
          have KV : Hid (Below w5.heap.size w5 V) := by show Below _ _ _; rw [← hV]; exact below_setRow Kx5_5.out HQ.out _
          have NV : Hid (V.heap[x5_1.heap.size]? = some (.cells #[.slice g0a0 g0n0 g0c0, .slice g0a1 g0n1 g0c1] 31 (0, 0))) := by show _ = _; rw [← hV]; exact setRow_heap _ _ _ _ _ _ Nx5_5.out
          have zx5_0 := Zx5_0.out
          have zx5_1 := Zx5_1.out
          have zx5_4 := Zx5_4.out
          have zx5_5 := Zx5_5.out
          have hsV : V.heap.size = x5_5.heap.size := by rw [← hV]; simp
          have GV : Hid (RingOwn x5_4.heap.size x5_5.heap.size V (.agg #[.slice g0a0 g0n0 g0c0, .slice g0a1 g0n1 g0c1]) L0) := by
            show RingOwn _ _ _ _ _
            rw [← hV]
            exact ringOwn_setRow485 Gx5_5.out (q := x5_1.heap.size) (by omega) _
          rw [hV]
          clear hV
          refine hK.out _ _ ?_ (fun hHeld => ?_)
          · exact HC9.out _ KV.out
          clear hK K
          try simp only [Act.put, List.setIfInBounds_toArray, List.set_cons_zero, List.set_cons_succ]
          refine wpAnyH_takeD (i := 9) (d := 10) (v := .bool L1) rfl (by kernel_rfl) (by kernel_rfl) (by kernel_rfl) (fun _ _ _ h => h) (Or.inl ⟨by rfl, by intro w hSw; (try dsimp only at hSw); go_simp⟩) (by assumption) rfl ?_
          simp only [Act.put, List.setIfInBounds_toArray, List.set_cons_zero, List.set_cons_succ]
          refine wpAnyH_done (by kernel_rfl) ?_ _
          go_wp2
          go_meet
          case rel =>
            exact ⟨_, _, _, _, _, _, _, _, _, rfl, rfl, NV.out, GV.out, by omega, by omega, by omega, by omega, KV.out, HQ.out⟩
      · skip
        go_simp
        have NA : Hid ((x5_0.alloc (.cells #[.slice none 0 0, .slice none 0 0] 31)).heap[x5_0.heap.size]? = some (.cells #[.slice none 0 0, .slice none 0 0] 31 (0, 0))) := heap_alloc_last _ _
        obtain ⟨x5_6, hx⟩ : ∃ X, x5_0.alloc (.cells #[.slice none 0 0, .slice none 0 0] 31) = X := ⟨_, rfl⟩
        have hb : Below x5_0.heap.size x5_0 x5_6 := by rw [← hx]; exact (Below.refl _ _).alloc (Nat.le_refl _) _
        have Zx5_6 : Hid (x5_0.heap.size < x5_6.heap.size) := by show _ < _; rw [← hx]; simp
        have Nx5_6 : Hid (x5_6.heap[x5_0.heap.size]? = some (.cells #[.slice none 0 0, .slice none 0 0] 31 (0, 0))) := by show _ = _; rw [← hx]; exact NA.out
        have HQ : Hid (w5.heap.size ≤ x5_0.heap.size) := Kx5_0.out.size
        rw [hx]
        clear hx NA
        have Kx5_6 : Hid (Below w5.heap.size w5 x5_6) := Kx5_0.out.trans (hb.mono Kx5_0.out.size)
        clear hb
        refine hK.out _ _ ?_ (fun hHeld => ?_)
        · exact HC9.out _ Kx5_6.out
        clear hK K
        try simp only [Act.put, List.setIfInBounds_toArray, List.set_cons_zero, List.set_cons_succ]
        refine wpAnyH_ready (rs := [2]) (by kernel_rfl) (by simp) ?_
        refine AllReadyH.cons rfl (fun K hK => ?_) AllReadyH.nil
        go_simp
        refine (toTurn_any tk1 tf1 ts1 _).mono ?_
        rintro e x5_7 ⟨rfl, hb⟩
        have Zx5_7 : Hid (x5_6.heap.size ≤ x5_7.heap.size) := hb.size
        have Kx5_7 : Hid (Below w5.heap.size w5 x5_7) := Kx5_6.out.trans (hb.mono Kx5_6.out.size)
        have Nx5_7 : Hid (x5_7.heap[x5_0.heap.size]? = some (.cells #[.slice none 0 0, .slice none 0 0] 31 (0, 0))) := (hb.block _ (Array.getElem?_eq_some_iff.1 Nx5_6.out).1).trans Nx5_6.out
        clear hb
        refine hK.out _ _ ?_ (fun hHeld => ?_)
        · exact HC9.out _ Kx5_7.out
        clear hK K
        try simp only [Act.put, List.setIfInBounds_toArray, List.set_cons_zero, List.set_cons_succ]
        refine wpAnyH_ready (rs := [3]) (by kernel_rfl) (by simp) ?_
        refine AllReadyH.cons rfl (fun K hK => ?_) AllReadyH.nil
        go_simp
        refine (HIM.out _ _ (X0_5.out.below Kx5_7.out).at (TB0_0.out.below (HB5.out.trans (Kx5_7.out.mono HB5.out.size))) (TB1_0.out.below (HB5.out.trans (Kx5_7.out.mono HB5.out.size))) (TB2_0.out.below (HB5.out.trans (Kx5_7.out.mono HB5.out.size))) HN1.out.1).mono ?_
        rintro e x5_8 ⟨g0a0, g0n0, g0c0, g0a1, g0n1, g0c1, rfl, hg, hb⟩
        have Gx5_8 : Hid (RingOwn x5_7.heap.size x5_8.heap.size x5_8 (.agg #[.slice g0a0 g0n0 g0c0, .slice g0a1 g0n1 g0c1]) L0) := hg
        clear hg
        have Zx5_8 : Hid (x5_7.heap.size ≤ x5_8.heap.size) := hb.size
        have Kx5_8 : Hid (Below w5.heap.size w5 x5_8) := Kx5_7.out.trans (hb.mono Kx5_7.out.size)
        have Nx5_8 : Hid (x5_8.heap[x5_0.heap.size]? = some (.cells #[.slice none 0 0, .slice none 0 0] 31 (0, 0))) := (hb.block _ (Array.getElem?_eq_some_iff.1 Nx5_7.out).1).trans Nx5_7.out
        clear hb
        refine hK.out _ _ ?_ (fun hHeld => ?_)
        · exact HC9.out _ Kx5_8.out
        clear hK K
        try simp only [Act.put, List.setIfInBounds_toArray, List.set_cons_zero, List.set_cons_succ]
        refine wpAnyH_takeD (i := 4) (d := 36) (v := .tuple #[.agg #[.slice g0a0 g0n0 g0c0, .slice g0a1 g0n1 g0c1], .bool L1]) rfl (by kernel_rfl) (by kernel_rfl) (by kernel_rfl) (fun _ _ _ h => h) (Or.inl ⟨by rfl, by intro w hSw; (try dsimp only at hSw); go_simp⟩) (by assumption) rfl ?_
        simp only [Act.put, List.setIfInBounds_toArray, List.set_cons_zero, List.set_cons_succ]
        refine wpAnyH_takeD (i := 5) (d := 41) (v := .agg #[.slice g0a0 g0n0 g0c0, .slice g0a1 g0n1 g0c1]) rfl (by kernel_rfl) (by kernel_rfl) (by kernel_rfl) (fun _ _ _ h => h) (Or.inl ⟨by rfl, by intro w hSw; (try dsimp only at hSw); go_simp⟩) (by assumption) rfl ?_
        simp only [Act.put, List.setIfInBounds_toArray, List.set_cons_zero, List.set_cons_succ]
        refine wpAnyH_takeD (i := 6) (d := 42) (v := .bool L1) rfl (by kernel_rfl) (by kernel_rfl) (by kernel_rfl) (fun _ _ _ h => h) (Or.inl ⟨by rfl, by intro w hSw; (try dsimp only at hSw); go_simp⟩) (by assumption) rfl ?_
        simp only [Act.put, List.setIfInBounds_toArray, List.set_cons_zero, List.set_cons_succ]
        refine wpAnyH_ready (rs := [8]) (by kernel_rfl) (by simp) ?_
        refine AllReadyH.cons rfl (fun K hK => ?_) AllReadyH.nil
        refine step_store_row rfl 31 (.tmp 9) (.tmp 41) rfl (x5_0.heap.size) #[.slice g0a0 g0n0 g0c0, .slice g0a1 g0n1 g0c1] rfl rfl 31 _ Nx5_8.out HS9.out rfl (by simp [Value.oneCell']) rfl ?_
        obtain ⟨V, hV⟩ : ∃ X, x5_8.setRow (x5_0.heap.size) #[.slice g0a0 g0n0 g0c0, .slice g0a1 g0n1 g0c1] = X := ⟨_, rfl⟩
        have KV : Hid (Below w5.heap.size w5 V) := by show Below _ _ _; rw [← hV]; exact below_setRow Kx5_8.out HQ.out _
        have NV : Hid (V.heap[x5_0.heap.size]? = some (.cells #[.slice g0a0 g0n0 g0c0, .slice g0a1 g0n1 g0c1] 31 (0, 0))) := by show _ = _; rw [← hV]; exact setRow_heap _ _ _ _ _ _ Nx5_8.out
        have zx5_0 := Zx5_0.out
        have zx5_6 := Zx5_6.out
        have zx5_7 := Zx5_7.out
        have zx5_8 := Zx5_8.out
        have hsV : V.heap.size = x5_8.heap.size := by rw [← hV]; simp
        have GV : Hid (RingOwn x5_7.heap.size x5_8.heap.size V (.agg #[.slice g0a0 g0n0 g0c0, .slice g0a1 g0n1 g0c1]) L0) := by
          show RingOwn _ _ _ _ _
          rw [← hV]
          exact ringOwn_setRow485 Gx5_8.out (q := x5_0.heap.size) (by omega) _
        rw [hV]
        clear hV
        refine hK.out _ _ ?_ (fun hHeld => ?_)
        · exact HC9.out _ KV.out
        clear hK K
        try simp only [Act.put, List.setIfInBounds_toArray, List.set_cons_zero, List.set_cons_succ]
        refine wpAnyH_takeD (i := 9) (d := 10) (v := .bool L1) rfl (by kernel_rfl) (by kernel_rfl) (by kernel_rfl) (fun _ _ _ h => h) (Or.inl ⟨by rfl, by intro w hSw; (try dsimp only at hSw); go_simp⟩) (by assumption) rfl ?_
        simp only [Act.put, List.setIfInBounds_toArray, List.set_cons_zero, List.set_cons_succ]
        refine wpAnyH_done (by kernel_rfl) ?_ _
        go_wp2
        go_meet
        case rel =>
          exact ⟨_, _, _, _, _, _, _, _, _, rfl, rfl, NV.out, GV.out, by omega, by omega, by omega, by omega, KV.out, HQ.out⟩
    case rest =>
      obtain ⟨w6, hw6⟩ : ∃ x, x = wc := ⟨_, rfl⟩
      subst hw6
      obtain ⟨B6, lo6, hi6, g0a0, g0n0, g0c0, g0a1, g0n1, g0c1, hp6, hv6_0, hr6, ha6, hl16, hl26, hl36, hl46, hh6, hl6⟩ := hcut
      subst hp6
      subst hv6_0
      have HB6 : Hid (Below w.heap.size w w6) := HB5.out.trans (hh6.mono HB5.out.size)
      have BC6 : Hid (Below w3.heap.size w3 w6) := BC5.out.trans (hh6.mono BC5.out.size)
      have c6_0_0 := (hh6.cell (p := ⟨(w.heap.size), 0, none⟩) hz5_0).trans c5_0_0
      have c6_0_1 := (hh6.cell (p := ⟨(w.heap.size), 1, none⟩) hz5_0).trans c5_0_1
      have hz6_0 : (w.heap.size) < w6.heap.size := Nat.lt_of_lt_of_le hz5_0 hh6.size
      have c6_1_0 := (hh6.cell (p := ⟨(w.heap.size + 1), 0, none⟩) hz5_1).trans c5_1_0
      have c6_1_1 := (hh6.cell (p := ⟨(w.heap.size + 1), 1, none⟩) hz5_1).trans c5_1_1
      have c6_1_2 := (hh6.cell (p := ⟨(w.heap.size + 1), 2, none⟩) hz5_1).trans c5_1_2
      have hz6_1 : (w.heap.size + 1) < w6.heap.size := Nat.lt_of_lt_of_le hz5_1 hh6.size
      have c6_2_0 := (hh6.cell (p := ⟨B3, 0, none⟩) hz5_2).trans c5_2_0
      have c6_2_1 := (hh6.cell (p := ⟨B3, 1, none⟩) hz5_2).trans c5_2_1
      have hz6_2 : B3 < w6.heap.size := Nat.lt_of_lt_of_le hz5_2 hh6.size
      have c6_3_0 := (hh6.cell (p := ⟨(w4.heap.size), 0, none⟩) hz5_3).trans c5_3_0
      have c6_3_1 := (hh6.cell (p := ⟨(w4.heap.size), 1, none⟩) hz5_3).trans c5_3_1
      have hz6_3 : (w4.heap.size) < w6.heap.size := Nat.lt_of_lt_of_le hz5_3 hh6.size
      have X0_6 : Hid (RingOwn (w3.heap.size) w4.heap.size w6 (.agg #[.slice y0a0 y0n0 y0c0, .slice y0a1 y0n1 y0c1]) (ks0, ns0)) := X0_5.out.below hh6
      have c6_4_0 : w6.cell? ⟨B6, 0, none⟩ = some (.slice g0a0 g0n0 g0c0) := by rw [cell_of_row _ _ 0 _ _ _ hr6]; rfl
      have c6_4_1 : w6.cell? ⟨B6, 1, none⟩ = some (.slice g0a1 g0n1 g0c1) := by rw [cell_of_row _ _ 1 _ _ _ hr6]; rfl
      have hz6_4 : B6 < w6.heap.size := (Array.getElem?_eq_some_iff.1 hr6).1
      have HZ6 : Hid (w5.heap.size ≤ w6.heap.size ∧ w5.heap.size ≤ B6 ∧ B6 < w6.heap.size ∧ w5.heap.size ≤ lo6 ∧ lo6 ≤ hi6 ∧ hi6 ≤ w6.heap.size ∧ (B6 < lo6 ∨ hi6 ≤ B6)) := ⟨hh6.size, hl6, hz6_4, hl16, hl26, hl36, hl46⟩
      have G_6 : Hid (RingOwn lo6 hi6 w6 (.agg #[.slice g0a0 g0n0 g0c0, .slice g0a1 g0n1 g0c1]) L0) := ha6
      clear c5_0_0 c5_0_1 hz5_0 c5_1_0 c5_1_1 c5_1_2 hz5_1 c5_2_0 c5_2_1 hz5_2 c5_3_0 c5_3_1 hz5_3 X0_5 hh6 hr6 ha6 hl6 hl16 hl26 hl36 hl46
      go_wp2_with fail
      refine (eqRing_u _ _ _ L0 (G_6.out).at (HU.out.below BC6.out)).mono ?_
      rintro e w7 ⟨rfl, hb7⟩
      have hh7 : Below w6.heap.size w6 w7 := hb7
      have HB7 : Hid (Below w.heap.size w w7) := HB6.out.trans (hh7.mono HB6.out.size)
      have BC7 : Hid (Below w3.heap.size w3 w7) := BC6.out.trans (hh7.mono BC6.out.size)
      have c7_0_0 := (hh7.cell (p := ⟨(w.heap.size), 0, none⟩) hz6_0).trans c6_0_0
      have c7_0_1 := (hh7.cell (p := ⟨(w.heap.size), 1, none⟩) hz6_0).trans c6_0_1
      have hz7_0 : (w.heap.size) < w7.heap.size := Nat.lt_of_lt_of_le hz6_0 hh7.size
      have c7_1_0 := (hh7.cell (p := ⟨(w.heap.size + 1), 0, none⟩) hz6_1).trans c6_1_0
      have c7_1_1 := (hh7.cell (p := ⟨(w.heap.size + 1), 1, none⟩) hz6_1).trans c6_1_1
      have c7_1_2 := (hh7.cell (p := ⟨(w.heap.size + 1), 2, none⟩) hz6_1).trans c6_1_2
      have hz7_1 : (w.heap.size + 1) < w7.heap.size := Nat.lt_of_lt_of_le hz6_1 hh7.size
      have c7_2_0 := (hh7.cell (p := ⟨B3, 0, none⟩) hz6_2).trans c6_2_0
      have c7_2_1 := (hh7.cell (p := ⟨B3, 1, none⟩) hz6_2).trans c6_2_1
      have hz7_2 : B3 < w7.heap.size := Nat.lt_of_lt_of_le hz6_2 hh7.size
      have c7_3_0 := (hh7.cell (p := ⟨(w4.heap.size), 0, none⟩) hz6_3).trans c6_3_0
      have c7_3_1 := (hh7.cell (p := ⟨(w4.heap.size), 1, none⟩) hz6_3).trans c6_3_1
      have hz7_3 : (w4.heap.size) < w7.heap.size := Nat.lt_of_lt_of_le hz6_3 hh7.size
      have c7_4_0 := (hh7.cell (p := ⟨B6, 0, none⟩) hz6_4).trans c6_4_0
      have c7_4_1 := (hh7.cell (p := ⟨B6, 1, none⟩) hz6_4).trans c6_4_1
      have hz7_4 : B6 < w7.heap.size := Nat.lt_of_lt_of_le hz6_4 hh7.size
      have X0_7 : Hid (RingOwn (w3.heap.size) w4.heap.size w7 (.agg #[.slice y0a0 y0n0 y0c0, .slice y0a1 y0n1 y0c1]) (ks0, ns0)) := X0_6.out.below hh7
      have G_7 : Hid (RingOwn lo6 hi6 w7 (.agg #[.slice g0a0 g0n0 g0c0, .slice g0a1 g0n1 g0c1]) L0) := G_6.out.below hh7
      have HZ7 : Hid (w6.heap.size ≤ w7.heap.size) := hh7.size
      clear c6_0_0 c6_0_1 hz6_0 c6_1_0 c6_1_1 c6_1_2 hz6_1 c6_2_0 c6_2_1 hz6_2 c6_3_0 c6_3_1 hz6_3 c6_4_0 c6_4_1 hz6_4 X0_6 G_6 hb7 hh7
      go_wp2_with fail
      go_region_held3 (fun w' => w'.cell? ⟨(w.heap.size), 0, none⟩ = some (va0) ∧ w'.cell? ⟨(w.heap.size), 1, none⟩ = some (vn0) ∧ w'.cell? ⟨(w.heap.size + 1), 0, none⟩ = some (.string tk1) ∧ w'.cell? ⟨(w.heap.size + 1), 1, none⟩ = some (.int .i64 tf1) ∧ w'.cell? ⟨(w.heap.size + 1), 2, none⟩ = some (.string ts1) ∧ w'.cell? ⟨B3, 0, none⟩ = some (.slice p0a0 p0n0 p0c0) ∧ w'.cell? ⟨B3, 1, none⟩ = some (.slice p0a1 p0n1 p0c1) ∧ w'.cell? ⟨(w4.heap.size), 0, none⟩ = some (.slice y0a0 y0n0 y0c0) ∧ w'.cell? ⟨(w4.heap.size), 1, none⟩ = some (.slice y0a1 y0n1 y0c1) ∧ w'.cell? ⟨B6, 0, none⟩ = some (.slice g0a0 g0n0 g0c0) ∧ w'.cell? ⟨B6, 1, none⟩ = some (.slice g0a1 g0n1 g0c1)) (go_keep)
        (first
          | (have qm := HB8; clear qm; go_at_call 11; refine (eqRing_u _ _ _ (ks0, ns0) (X0_8.out).at Ub0_8.out).mono ?_; rintro e w9 ⟨rfl, hb9⟩; have hh9 : Below w8.heap.size w8 w9 := hb9; have HB9 : Hid (Below w.heap.size w w9) := HB8.out.trans (hh9.mono HB8.out.size); have BC9 : Hid (Below w3.heap.size w3 w9) := BC8.out.trans (hh9.mono BC8.out.size); have c9_0_0 := (hh9.cell (p := ⟨(w.heap.size), 0, none⟩) hz8_0).trans c8_0_0; have c9_0_1 := (hh9.cell (p := ⟨(w.heap.size), 1, none⟩) hz8_0).trans c8_0_1; have hz9_0 : (w.heap.size) < w9.heap.size := Nat.lt_of_lt_of_le hz8_0 hh9.size; have c9_1_0 := (hh9.cell (p := ⟨(w.heap.size + 1), 0, none⟩) hz8_1).trans c8_1_0; have c9_1_1 := (hh9.cell (p := ⟨(w.heap.size + 1), 1, none⟩) hz8_1).trans c8_1_1; have c9_1_2 := (hh9.cell (p := ⟨(w.heap.size + 1), 2, none⟩) hz8_1).trans c8_1_2; have hz9_1 : (w.heap.size + 1) < w9.heap.size := Nat.lt_of_lt_of_le hz8_1 hh9.size; have c9_2_0 := (hh9.cell (p := ⟨B3, 0, none⟩) hz8_2).trans c8_2_0; have c9_2_1 := (hh9.cell (p := ⟨B3, 1, none⟩) hz8_2).trans c8_2_1; have hz9_2 : B3 < w9.heap.size := Nat.lt_of_lt_of_le hz8_2 hh9.size; have c9_3_0 := (hh9.cell (p := ⟨(w4.heap.size), 0, none⟩) hz8_3).trans c8_3_0; have c9_3_1 := (hh9.cell (p := ⟨(w4.heap.size), 1, none⟩) hz8_3).trans c8_3_1; have hz9_3 : (w4.heap.size) < w9.heap.size := Nat.lt_of_lt_of_le hz8_3 hh9.size; have c9_4_0 := (hh9.cell (p := ⟨B6, 0, none⟩) hz8_4).trans c8_4_0; have c9_4_1 := (hh9.cell (p := ⟨B6, 1, none⟩) hz8_4).trans c8_4_1; have hz9_4 : B6 < w9.heap.size := Nat.lt_of_lt_of_le hz8_4 hh9.size; have X0_9 : Hid (RingOwn (w3.heap.size) w4.heap.size w9 (.agg #[.slice y0a0 y0n0 y0c0, .slice y0a1 y0n1 y0c1]) (ks0, ns0)) := X0_8.out.below hh9; have G_9 : Hid (RingOwn lo6 hi6 w9 (.agg #[.slice g0a0 g0n0 g0c0, .slice g0a1 g0n1 g0c1]) L0) := G_8.out.below hh9; have Ub0_9 : Hid (RingAt w9 (ub0) (ks0, ns0)) := Ub0_8.out.below hh9; have HZ9 : Hid (w8.heap.size ≤ w9.heap.size) := hh9.size; clear c8_0_0 c8_0_1 hz8_0 c8_1_0 c8_1_1 c8_1_2 hz8_1 c8_2_0 c8_2_1 hz8_2 c8_3_0 c8_3_1 hz8_3 c8_4_0 c8_4_1 hz8_4 X0_8 G_8 Ub0_8 hb9 hh9)
          | (go_at_call 8; refine (toRing_u _ _ (ks0, ns0) (HA0.out.below (HB7.out.trans (Below.mono (Below.drew (Below.refl w7.heap.size w7)) HB7.out.size))) HN0.out).mono ?_; rintro e w8 ⟨ub0, rfl, hu8, hb8⟩; have hh8 : Below w7.heap.size w7 w8 := Below.trans (Below.drew (Below.refl w7.heap.size w7)) (Below.mono hb8 (Below.size (Below.drew (Below.refl w7.heap.size w7)))); have HB8 : Hid (Below w.heap.size w w8) := HB7.out.trans (hh8.mono HB7.out.size); have BC8 : Hid (Below w3.heap.size w3 w8) := BC7.out.trans (hh8.mono BC7.out.size); have c8_0_0 := (hh8.cell (p := ⟨(w.heap.size), 0, none⟩) hz7_0).trans c7_0_0; have c8_0_1 := (hh8.cell (p := ⟨(w.heap.size), 1, none⟩) hz7_0).trans c7_0_1; have hz8_0 : (w.heap.size) < w8.heap.size := Nat.lt_of_lt_of_le hz7_0 hh8.size; have c8_1_0 := (hh8.cell (p := ⟨(w.heap.size + 1), 0, none⟩) hz7_1).trans c7_1_0; have c8_1_1 := (hh8.cell (p := ⟨(w.heap.size + 1), 1, none⟩) hz7_1).trans c7_1_1; have c8_1_2 := (hh8.cell (p := ⟨(w.heap.size + 1), 2, none⟩) hz7_1).trans c7_1_2; have hz8_1 : (w.heap.size + 1) < w8.heap.size := Nat.lt_of_lt_of_le hz7_1 hh8.size; have c8_2_0 := (hh8.cell (p := ⟨B3, 0, none⟩) hz7_2).trans c7_2_0; have c8_2_1 := (hh8.cell (p := ⟨B3, 1, none⟩) hz7_2).trans c7_2_1; have hz8_2 : B3 < w8.heap.size := Nat.lt_of_lt_of_le hz7_2 hh8.size; have c8_3_0 := (hh8.cell (p := ⟨(w4.heap.size), 0, none⟩) hz7_3).trans c7_3_0; have c8_3_1 := (hh8.cell (p := ⟨(w4.heap.size), 1, none⟩) hz7_3).trans c7_3_1; have hz8_3 : (w4.heap.size) < w8.heap.size := Nat.lt_of_lt_of_le hz7_3 hh8.size; have c8_4_0 := (hh8.cell (p := ⟨B6, 0, none⟩) hz7_4).trans c7_4_0; have c8_4_1 := (hh8.cell (p := ⟨B6, 1, none⟩) hz7_4).trans c7_4_1; have hz8_4 : B6 < w8.heap.size := Nat.lt_of_lt_of_le hz7_4 hh8.size; have X0_8 : Hid (RingOwn (w3.heap.size) w4.heap.size w8 (.agg #[.slice y0a0 y0n0 y0c0, .slice y0a1 y0n1 y0c1]) (ks0, ns0)) := X0_7.out.below hh8; have G_8 : Hid (RingOwn lo6 hi6 w8 (.agg #[.slice g0a0 g0n0 g0c0, .slice g0a1 g0n1 g0c1]) L0) := G_7.out.below hh8; have HZ8 : Hid (w7.heap.size ≤ w8.heap.size) := hh8.size; clear c7_0_0 c7_0_1 hz7_0 c7_1_0 c7_1_1 c7_1_2 hz7_1 c7_2_0 c7_2_1 hz7_2 c7_3_0 c7_3_1 hz7_3 c7_4_0 c7_4_1 hz7_4 X0_7 G_7 hb8 hh8; have Ub0_8 : Hid (RingAt w8 (ub0) (ks0, ns0)) := hu8.at; clear hu8))
      go_wp2_with fail
      have hk0 : (1 : Nat) ≤ 1 := Nat.le_refl _
      obtain ⟨k0, hk0⟩ : ∃ K : Nat, 1 + ringCnt (ks0, ns0) = K := ⟨_, rfl⟩
      have sm0 := HN0.out
      have hc0 : ringCnt (ks0, ns0) ≤ 40000000 := by unfold RingSm at sm0; unfold ringCnt; omega
      clear sm0
      refine (cK (markRing_u (w3.heap.size) w4.heap.size 1 _ _ (ks0, ns0) X0_9.out HN0.out (by omega) (by have z1 := HZ1.out; have z2 := HZ2.out; have z3 := HZ3.out; have z4 := HZ4.out; have z5 := HZ5.out; have z6 := HZ6.out; have z7 := HZ7.out; have z8 := HZ8.out; have z9 := HZ9.out; omega) (by have z1 := HZ1.out; have z2 := HZ2.out; have z3 := HZ3.out; have z4 := HZ4.out; have z5 := HZ5.out; have z6 := HZ6.out; have z7 := HZ7.out; have z8 := HZ8.out; have z9 := HZ9.out; omega)) hk0).mono ?_
      rintro e w10 ⟨rfl, _, hw10⟩
      have HB10 : Hid (Below w.heap.size w w10) := HB9.out.trans (hw10.1.mono (show w.heap.size ≤ (w3.heap.size) from (by have z1 := HZ1.out; have z2 := HZ2.out; have z3 := HZ3.out; have z4 := HZ4.out; have z5 := HZ5.out; have z6 := HZ6.out; have z7 := HZ7.out; have z8 := HZ8.out; have z9 := HZ9.out; omega)))
      have BC10 : Hid (Below w3.heap.size w3 w10) := BC9.out.trans (hw10.1.mono (show w3.heap.size ≤ (w3.heap.size) from (by have z1 := HZ1.out; have z2 := HZ2.out; have z3 := HZ3.out; have z4 := HZ4.out; have z5 := HZ5.out; have z6 := HZ6.out; have z7 := HZ7.out; have z8 := HZ8.out; have z9 := HZ9.out; omega)))
      have c10_0_0 := (wr_cell hw10 (b := (w.heap.size)) 0 (by have z1 := HZ1.out; have z2 := HZ2.out; have z3 := HZ3.out; have z4 := HZ4.out; have z5 := HZ5.out; have z6 := HZ6.out; have z7 := HZ7.out; have z8 := HZ8.out; have z9 := HZ9.out; omega) hz9_0).trans c9_0_0
      have c10_0_1 := (wr_cell hw10 (b := (w.heap.size)) 1 (by have z1 := HZ1.out; have z2 := HZ2.out; have z3 := HZ3.out; have z4 := HZ4.out; have z5 := HZ5.out; have z6 := HZ6.out; have z7 := HZ7.out; have z8 := HZ8.out; have z9 := HZ9.out; omega) hz9_0).trans c9_0_1
      have hz10_0 : (w.heap.size) < w10.heap.size := Nat.lt_of_lt_of_le hz9_0 hw10.sz
      have c10_1_0 := (wr_cell hw10 (b := (w.heap.size + 1)) 0 (by have z1 := HZ1.out; have z2 := HZ2.out; have z3 := HZ3.out; have z4 := HZ4.out; have z5 := HZ5.out; have z6 := HZ6.out; have z7 := HZ7.out; have z8 := HZ8.out; have z9 := HZ9.out; omega) hz9_1).trans c9_1_0
      have c10_1_1 := (wr_cell hw10 (b := (w.heap.size + 1)) 1 (by have z1 := HZ1.out; have z2 := HZ2.out; have z3 := HZ3.out; have z4 := HZ4.out; have z5 := HZ5.out; have z6 := HZ6.out; have z7 := HZ7.out; have z8 := HZ8.out; have z9 := HZ9.out; omega) hz9_1).trans c9_1_1
      have c10_1_2 := (wr_cell hw10 (b := (w.heap.size + 1)) 2 (by have z1 := HZ1.out; have z2 := HZ2.out; have z3 := HZ3.out; have z4 := HZ4.out; have z5 := HZ5.out; have z6 := HZ6.out; have z7 := HZ7.out; have z8 := HZ8.out; have z9 := HZ9.out; omega) hz9_1).trans c9_1_2
      have hz10_1 : (w.heap.size + 1) < w10.heap.size := Nat.lt_of_lt_of_le hz9_1 hw10.sz
      have c10_2_0 := (wr_cell hw10 (b := B3) 0 (by have z1 := HZ1.out; have z2 := HZ2.out; have z3 := HZ3.out; have z4 := HZ4.out; have z5 := HZ5.out; have z6 := HZ6.out; have z7 := HZ7.out; have z8 := HZ8.out; have z9 := HZ9.out; omega) hz9_2).trans c9_2_0
      have c10_2_1 := (wr_cell hw10 (b := B3) 1 (by have z1 := HZ1.out; have z2 := HZ2.out; have z3 := HZ3.out; have z4 := HZ4.out; have z5 := HZ5.out; have z6 := HZ6.out; have z7 := HZ7.out; have z8 := HZ8.out; have z9 := HZ9.out; omega) hz9_2).trans c9_2_1
      have hz10_2 : B3 < w10.heap.size := Nat.lt_of_lt_of_le hz9_2 hw10.sz
      have c10_3_0 := (wr_cell hw10 (b := (w4.heap.size)) 0 (by have z1 := HZ1.out; have z2 := HZ2.out; have z3 := HZ3.out; have z4 := HZ4.out; have z5 := HZ5.out; have z6 := HZ6.out; have z7 := HZ7.out; have z8 := HZ8.out; have z9 := HZ9.out; omega) hz9_3).trans c9_3_0
      have c10_3_1 := (wr_cell hw10 (b := (w4.heap.size)) 1 (by have z1 := HZ1.out; have z2 := HZ2.out; have z3 := HZ3.out; have z4 := HZ4.out; have z5 := HZ5.out; have z6 := HZ6.out; have z7 := HZ7.out; have z8 := HZ8.out; have z9 := HZ9.out; omega) hz9_3).trans c9_3_1
      have hz10_3 : (w4.heap.size) < w10.heap.size := Nat.lt_of_lt_of_le hz9_3 hw10.sz
      have c10_4_0 := (wr_cell hw10 (b := B6) 0 (by have z1 := HZ1.out; have z2 := HZ2.out; have z3 := HZ3.out; have z4 := HZ4.out; have z5 := HZ5.out; have z6 := HZ6.out; have z7 := HZ7.out; have z8 := HZ8.out; have z9 := HZ9.out; omega) hz9_4).trans c9_4_0
      have c10_4_1 := (wr_cell hw10 (b := B6) 1 (by have z1 := HZ1.out; have z2 := HZ2.out; have z3 := HZ3.out; have z4 := HZ4.out; have z5 := HZ5.out; have z6 := HZ6.out; have z7 := HZ7.out; have z8 := HZ8.out; have z9 := HZ9.out; omega) hz9_4).trans c9_4_1
      have hz10_4 : B6 < w10.heap.size := Nat.lt_of_lt_of_le hz9_4 hw10.sz
      have G_10 : Hid (RingOwn lo6 hi6 w10 (.agg #[.slice g0a0 g0n0 g0c0, .slice g0a1 g0n1 g0c1]) L0) := G_9.out.wr hw10 (by have z1 := HZ1.out; have z2 := HZ2.out; have z3 := HZ3.out; have z4 := HZ4.out; have z5 := HZ5.out; have z6 := HZ6.out; have z7 := HZ7.out; have z8 := HZ8.out; have z9 := HZ9.out; omega)
      have HZ10 : Hid (w9.heap.size ≤ w10.heap.size) := hw10.sz
      clear c9_0_0 c9_0_1 hz9_0 c9_1_0 c9_1_1 c9_1_2 hz9_1 c9_2_0 c9_2_1 hz9_2 c9_3_0 c9_3_1 hz9_3 c9_4_0 c9_4_1 hz9_4 G_9 hw10
      have hkn0 : ¬ ((k0 : Int) < 0) := by omega
      have hkb0 : k0 ≤ 40000001 := by omega
      clear hk0
      go_wp2_with fail
      refine (eqRing_u _ _ _ L0 (G_10.out).at (HU.out.below BC10.out)).mono ?_
      rintro e w11 ⟨rfl, hb11⟩
      have hh11 : Below w10.heap.size w10 w11 := hb11
      have HB11 : Hid (Below w.heap.size w w11) := HB10.out.trans (hh11.mono HB10.out.size)
      have BC11 : Hid (Below w3.heap.size w3 w11) := BC10.out.trans (hh11.mono BC10.out.size)
      have c11_0_0 := (hh11.cell (p := ⟨(w.heap.size), 0, none⟩) hz10_0).trans c10_0_0
      have c11_0_1 := (hh11.cell (p := ⟨(w.heap.size), 1, none⟩) hz10_0).trans c10_0_1
      have hz11_0 : (w.heap.size) < w11.heap.size := Nat.lt_of_lt_of_le hz10_0 hh11.size
      have c11_1_0 := (hh11.cell (p := ⟨(w.heap.size + 1), 0, none⟩) hz10_1).trans c10_1_0
      have c11_1_1 := (hh11.cell (p := ⟨(w.heap.size + 1), 1, none⟩) hz10_1).trans c10_1_1
      have c11_1_2 := (hh11.cell (p := ⟨(w.heap.size + 1), 2, none⟩) hz10_1).trans c10_1_2
      have hz11_1 : (w.heap.size + 1) < w11.heap.size := Nat.lt_of_lt_of_le hz10_1 hh11.size
      have c11_2_0 := (hh11.cell (p := ⟨B3, 0, none⟩) hz10_2).trans c10_2_0
      have c11_2_1 := (hh11.cell (p := ⟨B3, 1, none⟩) hz10_2).trans c10_2_1
      have hz11_2 : B3 < w11.heap.size := Nat.lt_of_lt_of_le hz10_2 hh11.size
      have c11_3_0 := (hh11.cell (p := ⟨(w4.heap.size), 0, none⟩) hz10_3).trans c10_3_0
      have c11_3_1 := (hh11.cell (p := ⟨(w4.heap.size), 1, none⟩) hz10_3).trans c10_3_1
      have hz11_3 : (w4.heap.size) < w11.heap.size := Nat.lt_of_lt_of_le hz10_3 hh11.size
      have c11_4_0 := (hh11.cell (p := ⟨B6, 0, none⟩) hz10_4).trans c10_4_0
      have c11_4_1 := (hh11.cell (p := ⟨B6, 1, none⟩) hz10_4).trans c10_4_1
      have hz11_4 : B6 < w11.heap.size := Nat.lt_of_lt_of_le hz10_4 hh11.size
      have G_11 : Hid (RingOwn lo6 hi6 w11 (.agg #[.slice g0a0 g0n0 g0c0, .slice g0a1 g0n1 g0c1]) L0) := G_10.out.below hh11
      have HZ11 : Hid (w10.heap.size ≤ w11.heap.size) := hh11.size
      clear c10_0_0 c10_0_1 hz10_0 c10_1_0 c10_1_1 c10_1_2 hz10_1 c10_2_0 c10_2_1 hz10_2 c10_3_0 c10_3_1 hz10_3 c10_4_0 c10_4_1 hz10_4 G_10 hb11 hh11
      go_wp2_with fail
      obtain ⟨km, hkm⟩ : ∃ K : Nat, 1 + ringCnt L0 = K := ⟨_, rfl⟩
      have smr := HSM.out
      have hcr : ringCnt L0 ≤ 40000000 := by unfold RingSm at smr; unfold ringCnt; omega
      clear smr
      have HKM : Hid (_ = km) := hkm
      refine (cK (markRing_u lo6 hi6 1 _ _ L0 G_11.out HSM.out (by omega) (by have z1 := HZ1.out; have z2 := HZ2.out; have z3 := HZ3.out; have z4 := HZ4.out; have z5 := HZ5.out; have z6 := HZ6.out; have z7 := HZ7.out; have z8 := HZ8.out; have z9 := HZ9.out; have z10 := HZ10.out; have z11 := HZ11.out; omega) (by have z1 := HZ1.out; have z2 := HZ2.out; have z3 := HZ3.out; have z4 := HZ4.out; have z5 := HZ5.out; have z6 := HZ6.out; have z7 := HZ7.out; have z8 := HZ8.out; have z9 := HZ9.out; have z10 := HZ10.out; have z11 := HZ11.out; omega)) HKM.out).mono ?_
      rintro e w12 ⟨rfl, hu12, hw12⟩
      have HB12 : Hid (Below w.heap.size w w12) := HB11.out.trans (hw12.1.mono (show w.heap.size ≤ lo6 from (by have z1 := HZ1.out; have z2 := HZ2.out; have z3 := HZ3.out; have z4 := HZ4.out; have z5 := HZ5.out; have z6 := HZ6.out; have z7 := HZ7.out; have z8 := HZ8.out; have z9 := HZ9.out; have z10 := HZ10.out; have z11 := HZ11.out; omega)))
      have BC12 : Hid (Below w3.heap.size w3 w12) := BC11.out.trans (hw12.1.mono (show w3.heap.size ≤ lo6 from (by have z1 := HZ1.out; have z2 := HZ2.out; have z3 := HZ3.out; have z4 := HZ4.out; have z5 := HZ5.out; have z6 := HZ6.out; have z7 := HZ7.out; have z8 := HZ8.out; have z9 := HZ9.out; have z10 := HZ10.out; have z11 := HZ11.out; omega)))
      have c12_0_0 := (wr_cell hw12 (b := (w.heap.size)) 0 (by have z1 := HZ1.out; have z2 := HZ2.out; have z3 := HZ3.out; have z4 := HZ4.out; have z5 := HZ5.out; have z6 := HZ6.out; have z7 := HZ7.out; have z8 := HZ8.out; have z9 := HZ9.out; have z10 := HZ10.out; have z11 := HZ11.out; omega) hz11_0).trans c11_0_0
      have c12_0_1 := (wr_cell hw12 (b := (w.heap.size)) 1 (by have z1 := HZ1.out; have z2 := HZ2.out; have z3 := HZ3.out; have z4 := HZ4.out; have z5 := HZ5.out; have z6 := HZ6.out; have z7 := HZ7.out; have z8 := HZ8.out; have z9 := HZ9.out; have z10 := HZ10.out; have z11 := HZ11.out; omega) hz11_0).trans c11_0_1
      have hz12_0 : (w.heap.size) < w12.heap.size := Nat.lt_of_lt_of_le hz11_0 hw12.sz
      have c12_1_0 := (wr_cell hw12 (b := (w.heap.size + 1)) 0 (by have z1 := HZ1.out; have z2 := HZ2.out; have z3 := HZ3.out; have z4 := HZ4.out; have z5 := HZ5.out; have z6 := HZ6.out; have z7 := HZ7.out; have z8 := HZ8.out; have z9 := HZ9.out; have z10 := HZ10.out; have z11 := HZ11.out; omega) hz11_1).trans c11_1_0
      have c12_1_1 := (wr_cell hw12 (b := (w.heap.size + 1)) 1 (by have z1 := HZ1.out; have z2 := HZ2.out; have z3 := HZ3.out; have z4 := HZ4.out; have z5 := HZ5.out; have z6 := HZ6.out; have z7 := HZ7.out; have z8 := HZ8.out; have z9 := HZ9.out; have z10 := HZ10.out; have z11 := HZ11.out; omega) hz11_1).trans c11_1_1
      have c12_1_2 := (wr_cell hw12 (b := (w.heap.size + 1)) 2 (by have z1 := HZ1.out; have z2 := HZ2.out; have z3 := HZ3.out; have z4 := HZ4.out; have z5 := HZ5.out; have z6 := HZ6.out; have z7 := HZ7.out; have z8 := HZ8.out; have z9 := HZ9.out; have z10 := HZ10.out; have z11 := HZ11.out; omega) hz11_1).trans c11_1_2
      have hz12_1 : (w.heap.size + 1) < w12.heap.size := Nat.lt_of_lt_of_le hz11_1 hw12.sz
      have c12_2_0 := (wr_cell hw12 (b := B3) 0 (by have z1 := HZ1.out; have z2 := HZ2.out; have z3 := HZ3.out; have z4 := HZ4.out; have z5 := HZ5.out; have z6 := HZ6.out; have z7 := HZ7.out; have z8 := HZ8.out; have z9 := HZ9.out; have z10 := HZ10.out; have z11 := HZ11.out; omega) hz11_2).trans c11_2_0
      have c12_2_1 := (wr_cell hw12 (b := B3) 1 (by have z1 := HZ1.out; have z2 := HZ2.out; have z3 := HZ3.out; have z4 := HZ4.out; have z5 := HZ5.out; have z6 := HZ6.out; have z7 := HZ7.out; have z8 := HZ8.out; have z9 := HZ9.out; have z10 := HZ10.out; have z11 := HZ11.out; omega) hz11_2).trans c11_2_1
      have hz12_2 : B3 < w12.heap.size := Nat.lt_of_lt_of_le hz11_2 hw12.sz
      have c12_3_0 := (wr_cell hw12 (b := (w4.heap.size)) 0 (by have z1 := HZ1.out; have z2 := HZ2.out; have z3 := HZ3.out; have z4 := HZ4.out; have z5 := HZ5.out; have z6 := HZ6.out; have z7 := HZ7.out; have z8 := HZ8.out; have z9 := HZ9.out; have z10 := HZ10.out; have z11 := HZ11.out; omega) hz11_3).trans c11_3_0
      have c12_3_1 := (wr_cell hw12 (b := (w4.heap.size)) 1 (by have z1 := HZ1.out; have z2 := HZ2.out; have z3 := HZ3.out; have z4 := HZ4.out; have z5 := HZ5.out; have z6 := HZ6.out; have z7 := HZ7.out; have z8 := HZ8.out; have z9 := HZ9.out; have z10 := HZ10.out; have z11 := HZ11.out; omega) hz11_3).trans c11_3_1
      have hz12_3 : (w4.heap.size) < w12.heap.size := Nat.lt_of_lt_of_le hz11_3 hw12.sz
      have c12_4_0 := (wr_cell hw12 (b := B6) 0 (by have z1 := HZ1.out; have z2 := HZ2.out; have z3 := HZ3.out; have z4 := HZ4.out; have z5 := HZ5.out; have z6 := HZ6.out; have z7 := HZ7.out; have z8 := HZ8.out; have z9 := HZ9.out; have z10 := HZ10.out; have z11 := HZ11.out; omega) hz11_4).trans c11_4_0
      have c12_4_1 := (wr_cell hw12 (b := B6) 1 (by have z1 := HZ1.out; have z2 := HZ2.out; have z3 := HZ3.out; have z4 := HZ4.out; have z5 := HZ5.out; have z6 := HZ6.out; have z7 := HZ7.out; have z8 := HZ8.out; have z9 := HZ9.out; have z10 := HZ10.out; have z11 := HZ11.out; omega) hz11_4).trans c11_4_1
      have hz12_4 : B6 < w12.heap.size := Nat.lt_of_lt_of_le hz11_4 hw12.sz
      have HZ12 : Hid (w11.heap.size ≤ w12.heap.size) := hw12.sz
      clear c11_0_0 c11_0_1 hz11_0 c11_1_0 c11_1_1 c11_1_2 hz11_1 c11_2_0 c11_2_1 hz11_2 c11_3_0 c11_3_1 hz11_3 c11_4_0 c11_4_1 hz11_4 hw12
      have Q_12 : Hid (RingOwn lo6 hi6 w12 (.agg #[.slice g0a0 g0n0 g0c0, .slice g0a1 g0n1 g0c1]) (ringMk 1 L0)) := hu12
      clear hu12
      have hkmn : ¬ ((km : Int) < 0) := by omega
      clear hkm
      go_wp2_with fail
      refine (cK (heldRing_u _ _ 1 L0 (Q_12.out).at HSM.out (by omega)) HKM.out).mono ?_
      rintro e w13 ⟨rfl, hb13⟩
      have hh13 : Below w12.heap.size w12 w13 := hb13
      have HB13 : Hid (Below w.heap.size w w13) := HB12.out.trans (hh13.mono HB12.out.size)
      have BC13 : Hid (Below w3.heap.size w3 w13) := BC12.out.trans (hh13.mono BC12.out.size)
      have c13_0_0 := (hh13.cell (p := ⟨(w.heap.size), 0, none⟩) hz12_0).trans c12_0_0
      have c13_0_1 := (hh13.cell (p := ⟨(w.heap.size), 1, none⟩) hz12_0).trans c12_0_1
      have hz13_0 : (w.heap.size) < w13.heap.size := Nat.lt_of_lt_of_le hz12_0 hh13.size
      have c13_1_0 := (hh13.cell (p := ⟨(w.heap.size + 1), 0, none⟩) hz12_1).trans c12_1_0
      have c13_1_1 := (hh13.cell (p := ⟨(w.heap.size + 1), 1, none⟩) hz12_1).trans c12_1_1
      have c13_1_2 := (hh13.cell (p := ⟨(w.heap.size + 1), 2, none⟩) hz12_1).trans c12_1_2
      have hz13_1 : (w.heap.size + 1) < w13.heap.size := Nat.lt_of_lt_of_le hz12_1 hh13.size
      have c13_2_0 := (hh13.cell (p := ⟨B3, 0, none⟩) hz12_2).trans c12_2_0
      have c13_2_1 := (hh13.cell (p := ⟨B3, 1, none⟩) hz12_2).trans c12_2_1
      have hz13_2 : B3 < w13.heap.size := Nat.lt_of_lt_of_le hz12_2 hh13.size
      have c13_3_0 := (hh13.cell (p := ⟨(w4.heap.size), 0, none⟩) hz12_3).trans c12_3_0
      have c13_3_1 := (hh13.cell (p := ⟨(w4.heap.size), 1, none⟩) hz12_3).trans c12_3_1
      have hz13_3 : (w4.heap.size) < w13.heap.size := Nat.lt_of_lt_of_le hz12_3 hh13.size
      have c13_4_0 := (hh13.cell (p := ⟨B6, 0, none⟩) hz12_4).trans c12_4_0
      have c13_4_1 := (hh13.cell (p := ⟨B6, 1, none⟩) hz12_4).trans c12_4_1
      have hz13_4 : B6 < w13.heap.size := Nat.lt_of_lt_of_le hz12_4 hh13.size
      have Q_13 : Hid (RingOwn lo6 hi6 w13 (.agg #[.slice g0a0 g0n0 g0c0, .slice g0a1 g0n1 g0c1]) (ringMk 1 L0)) := Q_12.out.below hh13
      have HZ13 : Hid (w12.heap.size ≤ w13.heap.size) := hh13.size
      clear c12_0_0 c12_0_1 hz12_0 c12_1_0 c12_1_1 c12_1_2 hz12_1 c12_2_0 c12_2_1 hz12_2 c12_3_0 c12_3_1 hz12_3 c12_4_0 c12_4_1 hz12_4 Q_12 hb13 hh13
      go_wp2_with fail
      go_cut [14, 15] (fun u v0 wx => ∃ (Q lo hi : Nat) (e0a0 : Option Addr) (e0n0 e0c0 : Nat) (e0a1 : Option Addr) (e0n1 e0c1 : Nat), u = .pointer (some ⟨Q, 0, none⟩) ∧ v0 = .bool L1 ∧ wx.heap[Q]? = some (.cells #[.slice e0a0 e0n0 e0c0, .slice e0a1 e0n1 e0c1] 31 (0, 0)) ∧ RingOwn lo hi wx (.agg #[.slice e0a0 e0n0 e0c0, .slice e0a1 e0n1 e0c1]) L0 ∧ w13.heap.size ≤ lo ∧ lo ≤ hi ∧ hi ≤ wx.heap.size ∧ (Q < lo ∨ hi ≤ Q) ∧ Below w13.heap.size w13 wx ∧ w13.heap.size ≤ Q)
      case first =>
        have HS9 : Hid ((Tryd.prog.info? 31).map (·.size) = some 2) := by show _ = _; kernel_rfl
        have HC9 : Hid (∀ V, Below w13.heap.size w13 V → V.cell? ⟨(w.heap.size), 0, none⟩ = some (va0) ∧ V.cell? ⟨(w.heap.size), 1, none⟩ = some (vn0) ∧ V.cell? ⟨(w.heap.size + 1), 0, none⟩ = some (.string tk1) ∧ V.cell? ⟨(w.heap.size + 1), 1, none⟩ = some (.int .i64 tf1) ∧ V.cell? ⟨(w.heap.size + 1), 2, none⟩ = some (.string ts1) ∧ V.cell? ⟨B3, 0, none⟩ = some (.slice p0a0 p0n0 p0c0) ∧ V.cell? ⟨B3, 1, none⟩ = some (.slice p0a1 p0n1 p0c1) ∧ V.cell? ⟨(w4.heap.size), 0, none⟩ = some (.slice y0a0 y0n0 y0c0) ∧ V.cell? ⟨(w4.heap.size), 1, none⟩ = some (.slice y0a1 y0n1 y0c1) ∧ V.cell? ⟨B6, 0, none⟩ = some (.slice g0a0 g0n0 g0c0) ∧ V.cell? ⟨B6, 1, none⟩ = some (.slice g0a1 g0n1 g0c1)) := fun V hV => ⟨(hV.cell (p := ⟨(w.heap.size), 0, none⟩) hz13_0).trans c13_0_0, (hV.cell (p := ⟨(w.heap.size), 1, none⟩) hz13_0).trans c13_0_1, (hV.cell (p := ⟨(w.heap.size + 1), 0, none⟩) hz13_1).trans c13_1_0, (hV.cell (p := ⟨(w.heap.size + 1), 1, none⟩) hz13_1).trans c13_1_1, (hV.cell (p := ⟨(w.heap.size + 1), 2, none⟩) hz13_1).trans c13_1_2, (hV.cell (p := ⟨B3, 0, none⟩) hz13_2).trans c13_2_0, (hV.cell (p := ⟨B3, 1, none⟩) hz13_2).trans c13_2_1, (hV.cell (p := ⟨(w4.heap.size), 0, none⟩) hz13_3).trans c13_3_0, (hV.cell (p := ⟨(w4.heap.size), 1, none⟩) hz13_3).trans c13_3_1, (hV.cell (p := ⟨B6, 0, none⟩) hz13_4).trans c13_4_0, (hV.cell (p := ⟨B6, 1, none⟩) hz13_4).trans c13_4_1⟩
        refine wp_region_held_drew (S := (fun w' => w'.cell? ⟨(w.heap.size), 0, none⟩ = some (va0) ∧ w'.cell? ⟨(w.heap.size), 1, none⟩ = some (vn0) ∧ w'.cell? ⟨(w.heap.size + 1), 0, none⟩ = some (.string tk1) ∧ w'.cell? ⟨(w.heap.size + 1), 1, none⟩ = some (.int .i64 tf1) ∧ w'.cell? ⟨(w.heap.size + 1), 2, none⟩ = some (.string ts1) ∧ w'.cell? ⟨B3, 0, none⟩ = some (.slice p0a0 p0n0 p0c0) ∧ w'.cell? ⟨B3, 1, none⟩ = some (.slice p0a1 p0n1 p0c1) ∧ w'.cell? ⟨(w4.heap.size), 0, none⟩ = some (.slice y0a0 y0n0 y0c0) ∧ w'.cell? ⟨(w4.heap.size), 1, none⟩ = some (.slice y0a1 y0n1 y0c1) ∧ w'.cell? ⟨B6, 0, none⟩ = some (.slice g0a0 g0n0 g0c0) ∧ w'.cell? ⟨B6, 1, none⟩ = some (.slice g0a1 g0n1 g0c1))) (by kernel_rfl) ?_ (fun hHeld => ?_)
        · exact HC9.out w13 (Below.refl _ _)
        refine wpAnyH_takeD (i := 0) (d := 85) (v := .agg #[va0, vn0]) rfl (by kernel_rfl) (by kernel_rfl) (by kernel_rfl) (fun _ _ _ h => h) (Or.inl ⟨by rfl, by intro w hSw; (try dsimp only at hSw); go_simp⟩) (by assumption) rfl ?_
        simp only [Act.put, List.setIfInBounds_toArray, List.set_cons_zero, List.set_cons_succ]
        refine wpAnyH_takeD (i := 2) (d := 87) (v := .agg #[.string tk1, .int .i64 tf1, .string ts1]) rfl (by kernel_rfl) (by kernel_rfl) (by kernel_rfl) (fun _ _ _ h => h) (Or.inl ⟨by rfl, by intro w hSw; (try dsimp only at hSw); go_simp⟩) (by assumption) rfl ?_
        simp only [Act.put, List.setIfInBounds_toArray, List.set_cons_zero, List.set_cons_succ]
        obtain ⟨x13_0, hx⟩ : ∃ X, World.drew w13 = X := ⟨_, rfl⟩
        have Kx13_0 : Hid (Below w13.heap.size w13 x13_0) := by show Below _ _ _; rw [← hx]; exact (Below.refl _ _).drew
        have Zx13_0 : Hid (w13.heap.size ≤ x13_0.heap.size) := Kx13_0.out.size
        rw [hx]
        clear hx c13_0_0 c13_0_1 c13_1_0 c13_1_1 c13_1_2 c13_2_0 c13_2_1 c13_3_0 c13_3_1 c13_4_0 c13_4_1
        refine wpAnyH_ready (rs := [1, 8]) (by kernel_rfl) (by simp) ?_
        refine AllReadyH.cons rfl (fun K hK => ?_) (AllReadyH.cons rfl (fun K hK => ?_) AllReadyH.nil)
        · skip
          go_simp
          refine (toRing_u _ _ (ks0, ns0) (HA0.out.below (HB13.out.trans (Kx13_0.out.mono HB13.out.size))) HN0.out).mono ?_
          rintro e x13_1 ⟨u0, rfl, ho, hb⟩
          have U0x13_1 : Hid (RingAt x13_1 u0 (ks0, ns0)) := ho.at
          clear ho
          have Zx13_1 : Hid (x13_0.heap.size ≤ x13_1.heap.size) := hb.size
          have Kx13_1 : Hid (Below w13.heap.size w13 x13_1) := Kx13_0.out.trans (hb.mono Kx13_0.out.size)
          clear hb
          refine hK.out _ _ ?_ (fun hHeld => ?_)
          · exact HC9.out _ Kx13_1.out
          clear hK K
          try simp only [Act.put, List.setIfInBounds_toArray, List.set_cons_zero, List.set_cons_succ]
          refine wpAnyH_ready (rs := [3, 8]) (by kernel_rfl) (by simp) ?_
          refine AllReadyH.cons rfl (fun K hK => ?_) (AllReadyH.cons rfl (fun K hK => ?_) AllReadyH.nil)
          · skip
            go_simp
            refine (toTurn_any tk1 tf1 ts1 _).mono ?_
            rintro e x13_2 ⟨rfl, hb⟩
            have Zx13_2 : Hid (x13_1.heap.size ≤ x13_2.heap.size) := hb.size
            have Kx13_2 : Hid (Below w13.heap.size w13 x13_2) := Kx13_1.out.trans (hb.mono Kx13_1.out.size)
            have U0x13_2 : Hid (RingAt x13_2 u0 (ks0, ns0)) := U0x13_1.out.below hb
            clear hb
            refine hK.out _ _ ?_ (fun hHeld => ?_)
            · exact HC9.out _ Kx13_2.out
            clear hK K
            try simp only [Act.put, List.setIfInBounds_toArray, List.set_cons_zero, List.set_cons_succ]
            refine wpAnyH_ready (rs := [4, 8]) (by kernel_rfl) (by simp) ?_
            refine AllReadyH.cons rfl (fun K hK => ?_) (AllReadyH.cons rfl (fun K hK => ?_) AllReadyH.nil)
            · skip
              go_simp
              refine (HIM.out _ _ U0x13_2.out (TB0_0.out.below (HB13.out.trans (Kx13_2.out.mono HB13.out.size))) (TB1_0.out.below (HB13.out.trans (Kx13_2.out.mono HB13.out.size))) (TB2_0.out.below (HB13.out.trans (Kx13_2.out.mono HB13.out.size))) HN1.out.1).mono ?_
              rintro e x13_3 ⟨e0a0, e0n0, e0c0, e0a1, e0n1, e0c1, rfl, hg, hb⟩
              have Gx13_3 : Hid (RingOwn x13_2.heap.size x13_3.heap.size x13_3 (.agg #[.slice e0a0 e0n0 e0c0, .slice e0a1 e0n1 e0c1]) L0) := hg
              clear hg
              have Zx13_3 : Hid (x13_2.heap.size ≤ x13_3.heap.size) := hb.size
              have Kx13_3 : Hid (Below w13.heap.size w13 x13_3) := Kx13_2.out.trans (hb.mono Kx13_2.out.size)
              have U0x13_3 : Hid (RingAt x13_3 u0 (ks0, ns0)) := U0x13_2.out.below hb
              clear hb
              refine hK.out _ _ ?_ (fun hHeld => ?_)
              · exact HC9.out _ Kx13_3.out
              clear hK K
              try simp only [Act.put, List.setIfInBounds_toArray, List.set_cons_zero, List.set_cons_succ]
              refine wpAnyH_takeD (i := 5) (d := 84) (v := .tuple #[.agg #[.slice e0a0 e0n0 e0c0, .slice e0a1 e0n1 e0c1], .bool L1]) rfl (by kernel_rfl) (by kernel_rfl) (by kernel_rfl) (fun _ _ _ h => h) (Or.inl ⟨by rfl, by intro w hSw; (try dsimp only at hSw); go_simp⟩) (by assumption) rfl ?_
              simp only [Act.put, List.setIfInBounds_toArray, List.set_cons_zero, List.set_cons_succ]
              refine wpAnyH_takeD (i := 6) (d := 90) (v := .agg #[.slice e0a0 e0n0 e0c0, .slice e0a1 e0n1 e0c1]) rfl (by kernel_rfl) (by kernel_rfl) (by kernel_rfl) (fun _ _ _ h => h) (Or.inl ⟨by rfl, by intro w hSw; (try dsimp only at hSw); go_simp⟩) (by assumption) rfl ?_
              simp only [Act.put, List.setIfInBounds_toArray, List.set_cons_zero, List.set_cons_succ]
              refine wpAnyH_takeD (i := 7) (d := 91) (v := .bool L1) rfl (by kernel_rfl) (by kernel_rfl) (by kernel_rfl) (fun _ _ _ h => h) (Or.inl ⟨by rfl, by intro w hSw; (try dsimp only at hSw); go_simp⟩) (by assumption) rfl ?_
              simp only [Act.put, List.setIfInBounds_toArray, List.set_cons_zero, List.set_cons_succ]
              refine wpAnyH_ready (rs := [8]) (by kernel_rfl) (by simp) ?_
              refine AllReadyH.cons rfl (fun K hK => ?_) AllReadyH.nil
              go_simp
              have NA : Hid ((x13_3.alloc (.cells #[.slice none 0 0, .slice none 0 0] 31)).heap[x13_3.heap.size]? = some (.cells #[.slice none 0 0, .slice none 0 0] 31 (0, 0))) := heap_alloc_last _ _
              obtain ⟨x13_4, hx⟩ : ∃ X, x13_3.alloc (.cells #[.slice none 0 0, .slice none 0 0] 31) = X := ⟨_, rfl⟩
              have hb : Below x13_3.heap.size x13_3 x13_4 := by rw [← hx]; exact (Below.refl _ _).alloc (Nat.le_refl _) _
              have Zx13_4 : Hid (x13_3.heap.size < x13_4.heap.size) := by show _ < _; rw [← hx]; simp
              have Nx13_4 : Hid (x13_4.heap[x13_3.heap.size]? = some (.cells #[.slice none 0 0, .slice none 0 0] 31 (0, 0))) := by show _ = _; rw [← hx]; exact NA.out
              have HQ : Hid (w13.heap.size ≤ x13_3.heap.size) := Kx13_3.out.size
              rw [hx]
              clear hx NA
              have Kx13_4 : Hid (Below w13.heap.size w13 x13_4) := Kx13_3.out.trans (hb.mono Kx13_3.out.size)
              have Gx13_4 : Hid (RingOwn x13_2.heap.size x13_3.heap.size x13_4 (.agg #[.slice e0a0 e0n0 e0c0, .slice e0a1 e0n1 e0c1]) L0) := Gx13_3.out.below hb
              clear hb
              refine hK.out _ _ ?_ (fun hHeld => ?_)
              · exact HC9.out _ Kx13_4.out
              clear hK K
              try simp only [Act.put, List.setIfInBounds_toArray, List.set_cons_zero, List.set_cons_succ]
              refine wpAnyH_ready (rs := [9]) (by kernel_rfl) (by simp) ?_
              refine AllReadyH.cons rfl (fun K hK => ?_) AllReadyH.nil
              refine step_store_row rfl 31 (.tmp 14) (.tmp 90) rfl (x13_3.heap.size) #[.slice e0a0 e0n0 e0c0, .slice e0a1 e0n1 e0c1] rfl rfl 31 _ Nx13_4.out HS9.out rfl (by simp [Value.oneCell']) rfl ?_
              obtain ⟨V, hV⟩ : ∃ X, x13_4.setRow (x13_3.heap.size) #[.slice e0a0 e0n0 e0c0, .slice e0a1 e0n1 e0c1] = X := ⟨_, rfl⟩
              have KV : Hid (Below w13.heap.size w13 V) := by show Below _ _ _; rw [← hV]; exact below_setRow Kx13_4.out HQ.out _
              have NV : Hid (V.heap[x13_3.heap.size]? = some (.cells #[.slice e0a0 e0n0 e0c0, .slice e0a1 e0n1 e0c1] 31 (0, 0))) := by show _ = _; rw [← hV]; exact setRow_heap _ _ _ _ _ _ Nx13_4.out
              have zx13_0 := Zx13_0.out
              have zx13_1 := Zx13_1.out
              have zx13_2 := Zx13_2.out
              have zx13_3 := Zx13_3.out
              have zx13_4 := Zx13_4.out
              have hsV : V.heap.size = x13_4.heap.size := by rw [← hV]; simp
              have GV : Hid (RingOwn x13_2.heap.size x13_3.heap.size V (.agg #[.slice e0a0 e0n0 e0c0, .slice e0a1 e0n1 e0c1]) L0) := by
                show RingOwn _ _ _ _ _
                rw [← hV]
                exact ringOwn_setRow485 Gx13_4.out (q := x13_3.heap.size) (by omega) _
              rw [hV]
              clear hV
              refine hK.out _ _ ?_ (fun hHeld => ?_)
              · exact HC9.out _ KV.out
              clear hK K
              try simp only [Act.put, List.setIfInBounds_toArray, List.set_cons_zero, List.set_cons_succ]
              refine wpAnyH_takeD (i := 10) (d := 15) (v := .bool L1) rfl (by kernel_rfl) (by kernel_rfl) (by kernel_rfl) (fun _ _ _ h => h) (Or.inl ⟨by rfl, by intro w hSw; (try dsimp only at hSw); go_simp⟩) (by assumption) rfl ?_
              simp only [Act.put, List.setIfInBounds_toArray, List.set_cons_zero, List.set_cons_succ]
              refine wpAnyH_done (by kernel_rfl) ?_ _
              go_wp2
              go_meet
              case rel =>
                exact ⟨_, _, _, _, _, _, _, _, _, rfl, rfl, NV.out, GV.out, by omega, by omega, by omega, by omega, KV.out, HQ.out⟩
            · skip
              go_simp
              have NA : Hid ((x13_2.alloc (.cells #[.slice none 0 0, .slice none 0 0] 31)).heap[x13_2.heap.size]? = some (.cells #[.slice none 0 0, .slice none 0 0] 31 (0, 0))) := heap_alloc_last _ _
              obtain ⟨x13_5, hx⟩ : ∃ X, x13_2.alloc (.cells #[.slice none 0 0, .slice none 0 0] 31) = X := ⟨_, rfl⟩
              have hb : Below x13_2.heap.size x13_2 x13_5 := by rw [← hx]; exact (Below.refl _ _).alloc (Nat.le_refl _) _
              have Zx13_5 : Hid (x13_2.heap.size < x13_5.heap.size) := by show _ < _; rw [← hx]; simp
              have Nx13_5 : Hid (x13_5.heap[x13_2.heap.size]? = some (.cells #[.slice none 0 0, .slice none 0 0] 31 (0, 0))) := by show _ = _; rw [← hx]; exact NA.out
              have HQ : Hid (w13.heap.size ≤ x13_2.heap.size) := Kx13_2.out.size
              rw [hx]
              clear hx NA
              have Kx13_5 : Hid (Below w13.heap.size w13 x13_5) := Kx13_2.out.trans (hb.mono Kx13_2.out.size)
              have U0x13_5 : Hid (RingAt x13_5 u0 (ks0, ns0)) := U0x13_2.out.below hb
              clear hb
              refine hK.out _ _ ?_ (fun hHeld => ?_)
              · exact HC9.out _ Kx13_5.out
              clear hK K
              try simp only [Act.put, List.setIfInBounds_toArray, List.set_cons_zero, List.set_cons_succ]
              refine wpAnyH_ready (rs := [4]) (by kernel_rfl) (by simp) ?_
              refine AllReadyH.cons rfl (fun K hK => ?_) AllReadyH.nil
              go_simp
              refine (HIM.out _ _ U0x13_5.out (TB0_0.out.below (HB13.out.trans (Kx13_5.out.mono HB13.out.size))) (TB1_0.out.below (HB13.out.trans (Kx13_5.out.mono HB13.out.size))) (TB2_0.out.below (HB13.out.trans (Kx13_5.out.mono HB13.out.size))) HN1.out.1).mono ?_
              rintro e x13_6 ⟨e0a0, e0n0, e0c0, e0a1, e0n1, e0c1, rfl, hg, hb⟩
              have Gx13_6 : Hid (RingOwn x13_5.heap.size x13_6.heap.size x13_6 (.agg #[.slice e0a0 e0n0 e0c0, .slice e0a1 e0n1 e0c1]) L0) := hg
              clear hg
              have Zx13_6 : Hid (x13_5.heap.size ≤ x13_6.heap.size) := hb.size
              have Kx13_6 : Hid (Below w13.heap.size w13 x13_6) := Kx13_5.out.trans (hb.mono Kx13_5.out.size)
              have Nx13_6 : Hid (x13_6.heap[x13_2.heap.size]? = some (.cells #[.slice none 0 0, .slice none 0 0] 31 (0, 0))) := (hb.block _ (Array.getElem?_eq_some_iff.1 Nx13_5.out).1).trans Nx13_5.out
              have U0x13_6 : Hid (RingAt x13_6 u0 (ks0, ns0)) := U0x13_5.out.below hb
              clear hb
              refine hK.out _ _ ?_ (fun hHeld => ?_)
              · exact HC9.out _ Kx13_6.out
              clear hK K
              try simp only [Act.put, List.setIfInBounds_toArray, List.set_cons_zero, List.set_cons_succ]
              refine wpAnyH_takeD (i := 5) (d := 84) (v := .tuple #[.agg #[.slice e0a0 e0n0 e0c0, .slice e0a1 e0n1 e0c1], .bool L1]) rfl (by kernel_rfl) (by kernel_rfl) (by kernel_rfl) (fun _ _ _ h => h) (Or.inl ⟨by rfl, by intro w hSw; (try dsimp only at hSw); go_simp⟩) (by assumption) rfl ?_
              simp only [Act.put, List.setIfInBounds_toArray, List.set_cons_zero, List.set_cons_succ]
              refine wpAnyH_takeD (i := 6) (d := 90) (v := .agg #[.slice e0a0 e0n0 e0c0, .slice e0a1 e0n1 e0c1]) rfl (by kernel_rfl) (by kernel_rfl) (by kernel_rfl) (fun _ _ _ h => h) (Or.inl ⟨by rfl, by intro w hSw; (try dsimp only at hSw); go_simp⟩) (by assumption) rfl ?_
              simp only [Act.put, List.setIfInBounds_toArray, List.set_cons_zero, List.set_cons_succ]
              refine wpAnyH_takeD (i := 7) (d := 91) (v := .bool L1) rfl (by kernel_rfl) (by kernel_rfl) (by kernel_rfl) (fun _ _ _ h => h) (Or.inl ⟨by rfl, by intro w hSw; (try dsimp only at hSw); go_simp⟩) (by assumption) rfl ?_
              simp only [Act.put, List.setIfInBounds_toArray, List.set_cons_zero, List.set_cons_succ]
              refine wpAnyH_ready (rs := [9]) (by kernel_rfl) (by simp) ?_
              refine AllReadyH.cons rfl (fun K hK => ?_) AllReadyH.nil
              refine step_store_row rfl 31 (.tmp 14) (.tmp 90) rfl (x13_2.heap.size) #[.slice e0a0 e0n0 e0c0, .slice e0a1 e0n1 e0c1] rfl rfl 31 _ Nx13_6.out HS9.out rfl (by simp [Value.oneCell']) rfl ?_
              obtain ⟨V, hV⟩ : ∃ X, x13_6.setRow (x13_2.heap.size) #[.slice e0a0 e0n0 e0c0, .slice e0a1 e0n1 e0c1] = X := ⟨_, rfl⟩
              have KV : Hid (Below w13.heap.size w13 V) := by show Below _ _ _; rw [← hV]; exact below_setRow Kx13_6.out HQ.out _
              have NV : Hid (V.heap[x13_2.heap.size]? = some (.cells #[.slice e0a0 e0n0 e0c0, .slice e0a1 e0n1 e0c1] 31 (0, 0))) := by show _ = _; rw [← hV]; exact setRow_heap _ _ _ _ _ _ Nx13_6.out
              have zx13_0 := Zx13_0.out
              have zx13_1 := Zx13_1.out
              have zx13_2 := Zx13_2.out
              have zx13_5 := Zx13_5.out
              have zx13_6 := Zx13_6.out
              have hsV : V.heap.size = x13_6.heap.size := by rw [← hV]; simp
              have GV : Hid (RingOwn x13_5.heap.size x13_6.heap.size V (.agg #[.slice e0a0 e0n0 e0c0, .slice e0a1 e0n1 e0c1]) L0) := by
                show RingOwn _ _ _ _ _
                rw [← hV]
                exact ringOwn_setRow485 Gx13_6.out (q := x13_2.heap.size) (by omega) _
              rw [hV]
              clear hV
              refine hK.out _ _ ?_ (fun hHeld => ?_)
              · exact HC9.out _ KV.out
              clear hK K
              try simp only [Act.put, List.setIfInBounds_toArray, List.set_cons_zero, List.set_cons_succ]
              refine wpAnyH_takeD (i := 10) (d := 15) (v := .bool L1) rfl (by kernel_rfl) (by kernel_rfl) (by kernel_rfl) (fun _ _ _ h => h) (Or.inl ⟨by rfl, by intro w hSw; (try dsimp only at hSw); go_simp⟩) (by assumption) rfl ?_
              simp only [Act.put, List.setIfInBounds_toArray, List.set_cons_zero, List.set_cons_succ]
              refine wpAnyH_done (by kernel_rfl) ?_ _
              go_wp2
              go_meet
              case rel =>
                exact ⟨_, _, _, _, _, _, _, _, _, rfl, rfl, NV.out, GV.out, by omega, by omega, by omega, by omega, KV.out, HQ.out⟩
          · skip
            go_simp
            have NA : Hid ((x13_1.alloc (.cells #[.slice none 0 0, .slice none 0 0] 31)).heap[x13_1.heap.size]? = some (.cells #[.slice none 0 0, .slice none 0 0] 31 (0, 0))) := heap_alloc_last _ _
            obtain ⟨x13_7, hx⟩ : ∃ X, x13_1.alloc (.cells #[.slice none 0 0, .slice none 0 0] 31) = X := ⟨_, rfl⟩
            have hb : Below x13_1.heap.size x13_1 x13_7 := by rw [← hx]; exact (Below.refl _ _).alloc (Nat.le_refl _) _
            have Zx13_7 : Hid (x13_1.heap.size < x13_7.heap.size) := by show _ < _; rw [← hx]; simp
            have Nx13_7 : Hid (x13_7.heap[x13_1.heap.size]? = some (.cells #[.slice none 0 0, .slice none 0 0] 31 (0, 0))) := by show _ = _; rw [← hx]; exact NA.out
            have HQ : Hid (w13.heap.size ≤ x13_1.heap.size) := Kx13_1.out.size
            rw [hx]
            clear hx NA
            have Kx13_7 : Hid (Below w13.heap.size w13 x13_7) := Kx13_1.out.trans (hb.mono Kx13_1.out.size)
            have U0x13_7 : Hid (RingAt x13_7 u0 (ks0, ns0)) := U0x13_1.out.below hb
            clear hb
            refine hK.out _ _ ?_ (fun hHeld => ?_)
            · exact HC9.out _ Kx13_7.out
            clear hK K
            try simp only [Act.put, List.setIfInBounds_toArray, List.set_cons_zero, List.set_cons_succ]
            refine wpAnyH_ready (rs := [3]) (by kernel_rfl) (by simp) ?_
            refine AllReadyH.cons rfl (fun K hK => ?_) AllReadyH.nil
            go_simp
            refine (toTurn_any tk1 tf1 ts1 _).mono ?_
            rintro e x13_8 ⟨rfl, hb⟩
            have Zx13_8 : Hid (x13_7.heap.size ≤ x13_8.heap.size) := hb.size
            have Kx13_8 : Hid (Below w13.heap.size w13 x13_8) := Kx13_7.out.trans (hb.mono Kx13_7.out.size)
            have Nx13_8 : Hid (x13_8.heap[x13_1.heap.size]? = some (.cells #[.slice none 0 0, .slice none 0 0] 31 (0, 0))) := (hb.block _ (Array.getElem?_eq_some_iff.1 Nx13_7.out).1).trans Nx13_7.out
            have U0x13_8 : Hid (RingAt x13_8 u0 (ks0, ns0)) := U0x13_7.out.below hb
            clear hb
            refine hK.out _ _ ?_ (fun hHeld => ?_)
            · exact HC9.out _ Kx13_8.out
            clear hK K
            try simp only [Act.put, List.setIfInBounds_toArray, List.set_cons_zero, List.set_cons_succ]
            refine wpAnyH_ready (rs := [4]) (by kernel_rfl) (by simp) ?_
            refine AllReadyH.cons rfl (fun K hK => ?_) AllReadyH.nil
            go_simp
            refine (HIM.out _ _ U0x13_8.out (TB0_0.out.below (HB13.out.trans (Kx13_8.out.mono HB13.out.size))) (TB1_0.out.below (HB13.out.trans (Kx13_8.out.mono HB13.out.size))) (TB2_0.out.below (HB13.out.trans (Kx13_8.out.mono HB13.out.size))) HN1.out.1).mono ?_
            rintro e x13_9 ⟨e0a0, e0n0, e0c0, e0a1, e0n1, e0c1, rfl, hg, hb⟩
            have Gx13_9 : Hid (RingOwn x13_8.heap.size x13_9.heap.size x13_9 (.agg #[.slice e0a0 e0n0 e0c0, .slice e0a1 e0n1 e0c1]) L0) := hg
            clear hg
            have Zx13_9 : Hid (x13_8.heap.size ≤ x13_9.heap.size) := hb.size
            have Kx13_9 : Hid (Below w13.heap.size w13 x13_9) := Kx13_8.out.trans (hb.mono Kx13_8.out.size)
            have Nx13_9 : Hid (x13_9.heap[x13_1.heap.size]? = some (.cells #[.slice none 0 0, .slice none 0 0] 31 (0, 0))) := (hb.block _ (Array.getElem?_eq_some_iff.1 Nx13_8.out).1).trans Nx13_8.out
            have U0x13_9 : Hid (RingAt x13_9 u0 (ks0, ns0)) := U0x13_8.out.below hb
            clear hb
            refine hK.out _ _ ?_ (fun hHeld => ?_)
            · exact HC9.out _ Kx13_9.out
            clear hK K
            try simp only [Act.put, List.setIfInBounds_toArray, List.set_cons_zero, List.set_cons_succ]
            refine wpAnyH_takeD (i := 5) (d := 84) (v := .tuple #[.agg #[.slice e0a0 e0n0 e0c0, .slice e0a1 e0n1 e0c1], .bool L1]) rfl (by kernel_rfl) (by kernel_rfl) (by kernel_rfl) (fun _ _ _ h => h) (Or.inl ⟨by rfl, by intro w hSw; (try dsimp only at hSw); go_simp⟩) (by assumption) rfl ?_
            simp only [Act.put, List.setIfInBounds_toArray, List.set_cons_zero, List.set_cons_succ]
            refine wpAnyH_takeD (i := 6) (d := 90) (v := .agg #[.slice e0a0 e0n0 e0c0, .slice e0a1 e0n1 e0c1]) rfl (by kernel_rfl) (by kernel_rfl) (by kernel_rfl) (fun _ _ _ h => h) (Or.inl ⟨by rfl, by intro w hSw; (try dsimp only at hSw); go_simp⟩) (by assumption) rfl ?_
            simp only [Act.put, List.setIfInBounds_toArray, List.set_cons_zero, List.set_cons_succ]
            refine wpAnyH_takeD (i := 7) (d := 91) (v := .bool L1) rfl (by kernel_rfl) (by kernel_rfl) (by kernel_rfl) (fun _ _ _ h => h) (Or.inl ⟨by rfl, by intro w hSw; (try dsimp only at hSw); go_simp⟩) (by assumption) rfl ?_
            simp only [Act.put, List.setIfInBounds_toArray, List.set_cons_zero, List.set_cons_succ]
            refine wpAnyH_ready (rs := [9]) (by kernel_rfl) (by simp) ?_
            refine AllReadyH.cons rfl (fun K hK => ?_) AllReadyH.nil
            refine step_store_row rfl 31 (.tmp 14) (.tmp 90) rfl (x13_1.heap.size) #[.slice e0a0 e0n0 e0c0, .slice e0a1 e0n1 e0c1] rfl rfl 31 _ Nx13_9.out HS9.out rfl (by simp [Value.oneCell']) rfl ?_
            obtain ⟨V, hV⟩ : ∃ X, x13_9.setRow (x13_1.heap.size) #[.slice e0a0 e0n0 e0c0, .slice e0a1 e0n1 e0c1] = X := ⟨_, rfl⟩
            have KV : Hid (Below w13.heap.size w13 V) := by show Below _ _ _; rw [← hV]; exact below_setRow Kx13_9.out HQ.out _
            have NV : Hid (V.heap[x13_1.heap.size]? = some (.cells #[.slice e0a0 e0n0 e0c0, .slice e0a1 e0n1 e0c1] 31 (0, 0))) := by show _ = _; rw [← hV]; exact setRow_heap _ _ _ _ _ _ Nx13_9.out
            have zx13_0 := Zx13_0.out
            have zx13_1 := Zx13_1.out
            have zx13_7 := Zx13_7.out
            have zx13_8 := Zx13_8.out
            have zx13_9 := Zx13_9.out
            have hsV : V.heap.size = x13_9.heap.size := by rw [← hV]; simp
            have GV : Hid (RingOwn x13_8.heap.size x13_9.heap.size V (.agg #[.slice e0a0 e0n0 e0c0, .slice e0a1 e0n1 e0c1]) L0) := by
              show RingOwn _ _ _ _ _
              rw [← hV]
              exact ringOwn_setRow485 Gx13_9.out (q := x13_1.heap.size) (by omega) _
            rw [hV]
            clear hV
            refine hK.out _ _ ?_ (fun hHeld => ?_)
            · exact HC9.out _ KV.out
            clear hK K
            try simp only [Act.put, List.setIfInBounds_toArray, List.set_cons_zero, List.set_cons_succ]
            refine wpAnyH_takeD (i := 10) (d := 15) (v := .bool L1) rfl (by kernel_rfl) (by kernel_rfl) (by kernel_rfl) (fun _ _ _ h => h) (Or.inl ⟨by rfl, by intro w hSw; (try dsimp only at hSw); go_simp⟩) (by assumption) rfl ?_
            simp only [Act.put, List.setIfInBounds_toArray, List.set_cons_zero, List.set_cons_succ]
            refine wpAnyH_done (by kernel_rfl) ?_ _
            go_wp2
            go_meet
            case rel =>
              exact ⟨_, _, _, _, _, _, _, _, _, rfl, rfl, NV.out, GV.out, by omega, by omega, by omega, by omega, KV.out, HQ.out⟩
        · skip
          go_simp
          have NA : Hid ((x13_0.alloc (.cells #[.slice none 0 0, .slice none 0 0] 31)).heap[x13_0.heap.size]? = some (.cells #[.slice none 0 0, .slice none 0 0] 31 (0, 0))) := heap_alloc_last _ _
          obtain ⟨x13_10, hx⟩ : ∃ X, x13_0.alloc (.cells #[.slice none 0 0, .slice none 0 0] 31) = X := ⟨_, rfl⟩
          have hb : Below x13_0.heap.size x13_0 x13_10 := by rw [← hx]; exact (Below.refl _ _).alloc (Nat.le_refl _) _
          have Zx13_10 : Hid (x13_0.heap.size < x13_10.heap.size) := by show _ < _; rw [← hx]; simp
          have Nx13_10 : Hid (x13_10.heap[x13_0.heap.size]? = some (.cells #[.slice none 0 0, .slice none 0 0] 31 (0, 0))) := by show _ = _; rw [← hx]; exact NA.out
          have HQ : Hid (w13.heap.size ≤ x13_0.heap.size) := Kx13_0.out.size
          rw [hx]
          clear hx NA
          have Kx13_10 : Hid (Below w13.heap.size w13 x13_10) := Kx13_0.out.trans (hb.mono Kx13_0.out.size)
          clear hb
          refine hK.out _ _ ?_ (fun hHeld => ?_)
          · exact HC9.out _ Kx13_10.out
          clear hK K
          try simp only [Act.put, List.setIfInBounds_toArray, List.set_cons_zero, List.set_cons_succ]
          refine wpAnyH_ready (rs := [1]) (by kernel_rfl) (by simp) ?_
          refine AllReadyH.cons rfl (fun K hK => ?_) AllReadyH.nil
          go_simp
          refine (toRing_u _ _ (ks0, ns0) (HA0.out.below (HB13.out.trans (Kx13_10.out.mono HB13.out.size))) HN0.out).mono ?_
          rintro e x13_11 ⟨u0, rfl, ho, hb⟩
          have U0x13_11 : Hid (RingAt x13_11 u0 (ks0, ns0)) := ho.at
          clear ho
          have Zx13_11 : Hid (x13_10.heap.size ≤ x13_11.heap.size) := hb.size
          have Kx13_11 : Hid (Below w13.heap.size w13 x13_11) := Kx13_10.out.trans (hb.mono Kx13_10.out.size)
          have Nx13_11 : Hid (x13_11.heap[x13_0.heap.size]? = some (.cells #[.slice none 0 0, .slice none 0 0] 31 (0, 0))) := (hb.block _ (Array.getElem?_eq_some_iff.1 Nx13_10.out).1).trans Nx13_10.out
          clear hb
          refine hK.out _ _ ?_ (fun hHeld => ?_)
          · exact HC9.out _ Kx13_11.out
          clear hK K
          try simp only [Act.put, List.setIfInBounds_toArray, List.set_cons_zero, List.set_cons_succ]
          refine wpAnyH_ready (rs := [3]) (by kernel_rfl) (by simp) ?_
          refine AllReadyH.cons rfl (fun K hK => ?_) AllReadyH.nil
          go_simp
          refine (toTurn_any tk1 tf1 ts1 _).mono ?_
          rintro e x13_12 ⟨rfl, hb⟩
          have Zx13_12 : Hid (x13_11.heap.size ≤ x13_12.heap.size) := hb.size
          have Kx13_12 : Hid (Below w13.heap.size w13 x13_12) := Kx13_11.out.trans (hb.mono Kx13_11.out.size)
          have Nx13_12 : Hid (x13_12.heap[x13_0.heap.size]? = some (.cells #[.slice none 0 0, .slice none 0 0] 31 (0, 0))) := (hb.block _ (Array.getElem?_eq_some_iff.1 Nx13_11.out).1).trans Nx13_11.out
          have U0x13_12 : Hid (RingAt x13_12 u0 (ks0, ns0)) := U0x13_11.out.below hb
          clear hb
          refine hK.out _ _ ?_ (fun hHeld => ?_)
          · exact HC9.out _ Kx13_12.out
          clear hK K
          try simp only [Act.put, List.setIfInBounds_toArray, List.set_cons_zero, List.set_cons_succ]
          refine wpAnyH_ready (rs := [4]) (by kernel_rfl) (by simp) ?_
          refine AllReadyH.cons rfl (fun K hK => ?_) AllReadyH.nil
          go_simp
          refine (HIM.out _ _ U0x13_12.out (TB0_0.out.below (HB13.out.trans (Kx13_12.out.mono HB13.out.size))) (TB1_0.out.below (HB13.out.trans (Kx13_12.out.mono HB13.out.size))) (TB2_0.out.below (HB13.out.trans (Kx13_12.out.mono HB13.out.size))) HN1.out.1).mono ?_
          rintro e x13_13 ⟨e0a0, e0n0, e0c0, e0a1, e0n1, e0c1, rfl, hg, hb⟩
          have Gx13_13 : Hid (RingOwn x13_12.heap.size x13_13.heap.size x13_13 (.agg #[.slice e0a0 e0n0 e0c0, .slice e0a1 e0n1 e0c1]) L0) := hg
          clear hg
          have Zx13_13 : Hid (x13_12.heap.size ≤ x13_13.heap.size) := hb.size
          have Kx13_13 : Hid (Below w13.heap.size w13 x13_13) := Kx13_12.out.trans (hb.mono Kx13_12.out.size)
          have Nx13_13 : Hid (x13_13.heap[x13_0.heap.size]? = some (.cells #[.slice none 0 0, .slice none 0 0] 31 (0, 0))) := (hb.block _ (Array.getElem?_eq_some_iff.1 Nx13_12.out).1).trans Nx13_12.out
          have U0x13_13 : Hid (RingAt x13_13 u0 (ks0, ns0)) := U0x13_12.out.below hb
          clear hb
          refine hK.out _ _ ?_ (fun hHeld => ?_)
          · exact HC9.out _ Kx13_13.out
          clear hK K
          try simp only [Act.put, List.setIfInBounds_toArray, List.set_cons_zero, List.set_cons_succ]
          refine wpAnyH_takeD (i := 5) (d := 84) (v := .tuple #[.agg #[.slice e0a0 e0n0 e0c0, .slice e0a1 e0n1 e0c1], .bool L1]) rfl (by kernel_rfl) (by kernel_rfl) (by kernel_rfl) (fun _ _ _ h => h) (Or.inl ⟨by rfl, by intro w hSw; (try dsimp only at hSw); go_simp⟩) (by assumption) rfl ?_
          simp only [Act.put, List.setIfInBounds_toArray, List.set_cons_zero, List.set_cons_succ]
          refine wpAnyH_takeD (i := 6) (d := 90) (v := .agg #[.slice e0a0 e0n0 e0c0, .slice e0a1 e0n1 e0c1]) rfl (by kernel_rfl) (by kernel_rfl) (by kernel_rfl) (fun _ _ _ h => h) (Or.inl ⟨by rfl, by intro w hSw; (try dsimp only at hSw); go_simp⟩) (by assumption) rfl ?_
          simp only [Act.put, List.setIfInBounds_toArray, List.set_cons_zero, List.set_cons_succ]
          refine wpAnyH_takeD (i := 7) (d := 91) (v := .bool L1) rfl (by kernel_rfl) (by kernel_rfl) (by kernel_rfl) (fun _ _ _ h => h) (Or.inl ⟨by rfl, by intro w hSw; (try dsimp only at hSw); go_simp⟩) (by assumption) rfl ?_
          simp only [Act.put, List.setIfInBounds_toArray, List.set_cons_zero, List.set_cons_succ]
          refine wpAnyH_ready (rs := [9]) (by kernel_rfl) (by simp) ?_
          refine AllReadyH.cons rfl (fun K hK => ?_) AllReadyH.nil
          refine step_store_row rfl 31 (.tmp 14) (.tmp 90) rfl (x13_0.heap.size) #[.slice e0a0 e0n0 e0c0, .slice e0a1 e0n1 e0c1] rfl rfl 31 _ Nx13_13.out HS9.out rfl (by simp [Value.oneCell']) rfl ?_
          obtain ⟨V, hV⟩ : ∃ X, x13_13.setRow (x13_0.heap.size) #[.slice e0a0 e0n0 e0c0, .slice e0a1 e0n1 e0c1] = X := ⟨_, rfl⟩
          have KV : Hid (Below w13.heap.size w13 V) := by show Below _ _ _; rw [← hV]; exact below_setRow Kx13_13.out HQ.out _
          have NV : Hid (V.heap[x13_0.heap.size]? = some (.cells #[.slice e0a0 e0n0 e0c0, .slice e0a1 e0n1 e0c1] 31 (0, 0))) := by show _ = _; rw [← hV]; exact setRow_heap _ _ _ _ _ _ Nx13_13.out
          have zx13_0 := Zx13_0.out
          have zx13_10 := Zx13_10.out
          have zx13_11 := Zx13_11.out
          have zx13_12 := Zx13_12.out
          have zx13_13 := Zx13_13.out
          have hsV : V.heap.size = x13_13.heap.size := by rw [← hV]; simp
          have GV : Hid (RingOwn x13_12.heap.size x13_13.heap.size V (.agg #[.slice e0a0 e0n0 e0c0, .slice e0a1 e0n1 e0c1]) L0) := by
            show RingOwn _ _ _ _ _
            rw [← hV]
            exact ringOwn_setRow485 Gx13_13.out (q := x13_0.heap.size) (by omega) _
          rw [hV]
          clear hV
          refine hK.out _ _ ?_ (fun hHeld => ?_)
          · exact HC9.out _ KV.out
          clear hK K
          try simp only [Act.put, List.setIfInBounds_toArray, List.set_cons_zero, List.set_cons_succ]
          refine wpAnyH_takeD (i := 10) (d := 15) (v := .bool L1) rfl (by kernel_rfl) (by kernel_rfl) (by kernel_rfl) (fun _ _ _ h => h) (Or.inl ⟨by rfl, by intro w hSw; (try dsimp only at hSw); go_simp⟩) (by assumption) rfl ?_
          simp only [Act.put, List.setIfInBounds_toArray, List.set_cons_zero, List.set_cons_succ]
          refine wpAnyH_done (by kernel_rfl) ?_ _
          go_wp2
          go_meet
          case rel =>
            exact ⟨_, _, _, _, _, _, _, _, _, rfl, rfl, NV.out, GV.out, by omega, by omega, by omega, by omega, KV.out, HQ.out⟩
      case rest =>
        obtain ⟨w14, hw14⟩ : ∃ x, x = wc := ⟨_, rfl⟩
        subst hw14
        obtain ⟨B14, lo14, hi14, e0a0, e0n0, e0c0, e0a1, e0n1, e0c1, hp14, hv14_0, hr14, ha14, hl114, hl214, hl314, hl414, hh14, hl14⟩ := hcut
        subst hp14
        subst hv14_0
        have HB14 : Hid (Below w.heap.size w w14) := HB13.out.trans (hh14.mono HB13.out.size)
        have BC14 : Hid (Below w3.heap.size w3 w14) := BC13.out.trans (hh14.mono BC13.out.size)
        have c14_0_0 := (hh14.cell (p := ⟨(w.heap.size), 0, none⟩) hz13_0).trans c13_0_0
        have c14_0_1 := (hh14.cell (p := ⟨(w.heap.size), 1, none⟩) hz13_0).trans c13_0_1
        have hz14_0 : (w.heap.size) < w14.heap.size := Nat.lt_of_lt_of_le hz13_0 hh14.size
        have c14_1_0 := (hh14.cell (p := ⟨(w.heap.size + 1), 0, none⟩) hz13_1).trans c13_1_0
        have c14_1_1 := (hh14.cell (p := ⟨(w.heap.size + 1), 1, none⟩) hz13_1).trans c13_1_1
        have c14_1_2 := (hh14.cell (p := ⟨(w.heap.size + 1), 2, none⟩) hz13_1).trans c13_1_2
        have hz14_1 : (w.heap.size + 1) < w14.heap.size := Nat.lt_of_lt_of_le hz13_1 hh14.size
        have c14_2_0 := (hh14.cell (p := ⟨B3, 0, none⟩) hz13_2).trans c13_2_0
        have c14_2_1 := (hh14.cell (p := ⟨B3, 1, none⟩) hz13_2).trans c13_2_1
        have hz14_2 : B3 < w14.heap.size := Nat.lt_of_lt_of_le hz13_2 hh14.size
        have c14_3_0 := (hh14.cell (p := ⟨(w4.heap.size), 0, none⟩) hz13_3).trans c13_3_0
        have c14_3_1 := (hh14.cell (p := ⟨(w4.heap.size), 1, none⟩) hz13_3).trans c13_3_1
        have hz14_3 : (w4.heap.size) < w14.heap.size := Nat.lt_of_lt_of_le hz13_3 hh14.size
        have c14_4_0 := (hh14.cell (p := ⟨B6, 0, none⟩) hz13_4).trans c13_4_0
        have c14_4_1 := (hh14.cell (p := ⟨B6, 1, none⟩) hz13_4).trans c13_4_1
        have hz14_4 : B6 < w14.heap.size := Nat.lt_of_lt_of_le hz13_4 hh14.size
        have Q_14 : Hid (RingOwn lo6 hi6 w14 (.agg #[.slice g0a0 g0n0 g0c0, .slice g0a1 g0n1 g0c1]) (ringMk 1 L0)) := Q_13.out.below hh14
        have c14_5_0 : w14.cell? ⟨B14, 0, none⟩ = some (.slice e0a0 e0n0 e0c0) := by rw [cell_of_row _ _ 0 _ _ _ hr14]; rfl
        have c14_5_1 : w14.cell? ⟨B14, 1, none⟩ = some (.slice e0a1 e0n1 e0c1) := by rw [cell_of_row _ _ 1 _ _ _ hr14]; rfl
        have hz14_5 : B14 < w14.heap.size := (Array.getElem?_eq_some_iff.1 hr14).1
        have HZ14 : Hid (w13.heap.size ≤ w14.heap.size ∧ w13.heap.size ≤ B14 ∧ B14 < w14.heap.size ∧ w13.heap.size ≤ lo14 ∧ lo14 ≤ hi14 ∧ hi14 ≤ w14.heap.size ∧ (B14 < lo14 ∨ hi14 ≤ B14)) := ⟨hh14.size, hl14, hz14_5, hl114, hl214, hl314, hl414⟩
        have HW_14 : Hid (RingAt w14 (.agg #[.slice e0a0 e0n0 e0c0, .slice e0a1 e0n1 e0c1]) L0) := ha14.at
        clear c13_0_0 c13_0_1 hz13_0 c13_1_0 c13_1_1 c13_1_2 hz13_1 c13_2_0 c13_2_1 hz13_2 c13_3_0 c13_3_1 hz13_3 c13_4_0 c13_4_1 hz13_4 Q_13 hh14 hr14 ha14 hl14 hl114 hl214 hl314 hl414
        go_wp2_with fail
        refine (eqRing_u _ _ _ L0 HW_14.out (HU.out.below BC14.out)).mono ?_
        rintro e w15 ⟨rfl, hb15⟩
        have hh15 : Below w14.heap.size w14 w15 := hb15
        have HB15 : Hid (Below w.heap.size w w15) := HB14.out.trans (hh15.mono HB14.out.size)
        have BC15 : Hid (Below w3.heap.size w3 w15) := BC14.out.trans (hh15.mono BC14.out.size)
        have c15_0_0 := (hh15.cell (p := ⟨(w.heap.size), 0, none⟩) hz14_0).trans c14_0_0
        have c15_0_1 := (hh15.cell (p := ⟨(w.heap.size), 1, none⟩) hz14_0).trans c14_0_1
        have hz15_0 : (w.heap.size) < w15.heap.size := Nat.lt_of_lt_of_le hz14_0 hh15.size
        have c15_1_0 := (hh15.cell (p := ⟨(w.heap.size + 1), 0, none⟩) hz14_1).trans c14_1_0
        have c15_1_1 := (hh15.cell (p := ⟨(w.heap.size + 1), 1, none⟩) hz14_1).trans c14_1_1
        have c15_1_2 := (hh15.cell (p := ⟨(w.heap.size + 1), 2, none⟩) hz14_1).trans c14_1_2
        have hz15_1 : (w.heap.size + 1) < w15.heap.size := Nat.lt_of_lt_of_le hz14_1 hh15.size
        have c15_2_0 := (hh15.cell (p := ⟨B3, 0, none⟩) hz14_2).trans c14_2_0
        have c15_2_1 := (hh15.cell (p := ⟨B3, 1, none⟩) hz14_2).trans c14_2_1
        have hz15_2 : B3 < w15.heap.size := Nat.lt_of_lt_of_le hz14_2 hh15.size
        have c15_3_0 := (hh15.cell (p := ⟨(w4.heap.size), 0, none⟩) hz14_3).trans c14_3_0
        have c15_3_1 := (hh15.cell (p := ⟨(w4.heap.size), 1, none⟩) hz14_3).trans c14_3_1
        have hz15_3 : (w4.heap.size) < w15.heap.size := Nat.lt_of_lt_of_le hz14_3 hh15.size
        have c15_4_0 := (hh15.cell (p := ⟨B6, 0, none⟩) hz14_4).trans c14_4_0
        have c15_4_1 := (hh15.cell (p := ⟨B6, 1, none⟩) hz14_4).trans c14_4_1
        have hz15_4 : B6 < w15.heap.size := Nat.lt_of_lt_of_le hz14_4 hh15.size
        have c15_5_0 := (hh15.cell (p := ⟨B14, 0, none⟩) hz14_5).trans c14_5_0
        have c15_5_1 := (hh15.cell (p := ⟨B14, 1, none⟩) hz14_5).trans c14_5_1
        have hz15_5 : B14 < w15.heap.size := Nat.lt_of_lt_of_le hz14_5 hh15.size
        have Q_15 : Hid (RingOwn lo6 hi6 w15 (.agg #[.slice g0a0 g0n0 g0c0, .slice g0a1 g0n1 g0c1]) (ringMk 1 L0)) := Q_14.out.below hh15
        have HW_15 : Hid (RingAt w15 (.agg #[.slice e0a0 e0n0 e0c0, .slice e0a1 e0n1 e0c1]) L0) := HW_14.out.below hh15
        have HZ15 : Hid (w14.heap.size ≤ w15.heap.size) := hh15.size
        clear c14_0_0 c14_0_1 hz14_0 c14_1_0 c14_1_1 c14_1_2 hz14_1 c14_2_0 c14_2_1 hz14_2 c14_3_0 c14_3_1 hz14_3 c14_4_0 c14_4_1 hz14_4 c14_5_0 c14_5_1 hz14_5 Q_14 HW_14 hb15 hh15
        go_wp2_with fail
        refine (cK (heldRing_u _ _ 1 L0 (Q_15.out).at HSM.out (by omega)) HKM.out).mono ?_
        rintro e w16 ⟨rfl, hb16⟩
        have hh16 : Below w15.heap.size w15 w16 := hb16
        have HB16 : Hid (Below w.heap.size w w16) := HB15.out.trans (hh16.mono HB15.out.size)
        have BC16 : Hid (Below w3.heap.size w3 w16) := BC15.out.trans (hh16.mono BC15.out.size)
        have c16_0_0 := (hh16.cell (p := ⟨(w.heap.size), 0, none⟩) hz15_0).trans c15_0_0
        have c16_0_1 := (hh16.cell (p := ⟨(w.heap.size), 1, none⟩) hz15_0).trans c15_0_1
        have hz16_0 : (w.heap.size) < w16.heap.size := Nat.lt_of_lt_of_le hz15_0 hh16.size
        have c16_1_0 := (hh16.cell (p := ⟨(w.heap.size + 1), 0, none⟩) hz15_1).trans c15_1_0
        have c16_1_1 := (hh16.cell (p := ⟨(w.heap.size + 1), 1, none⟩) hz15_1).trans c15_1_1
        have c16_1_2 := (hh16.cell (p := ⟨(w.heap.size + 1), 2, none⟩) hz15_1).trans c15_1_2
        have hz16_1 : (w.heap.size + 1) < w16.heap.size := Nat.lt_of_lt_of_le hz15_1 hh16.size
        have c16_2_0 := (hh16.cell (p := ⟨B3, 0, none⟩) hz15_2).trans c15_2_0
        have c16_2_1 := (hh16.cell (p := ⟨B3, 1, none⟩) hz15_2).trans c15_2_1
        have hz16_2 : B3 < w16.heap.size := Nat.lt_of_lt_of_le hz15_2 hh16.size
        have c16_3_0 := (hh16.cell (p := ⟨(w4.heap.size), 0, none⟩) hz15_3).trans c15_3_0
        have c16_3_1 := (hh16.cell (p := ⟨(w4.heap.size), 1, none⟩) hz15_3).trans c15_3_1
        have hz16_3 : (w4.heap.size) < w16.heap.size := Nat.lt_of_lt_of_le hz15_3 hh16.size
        have c16_4_0 := (hh16.cell (p := ⟨B6, 0, none⟩) hz15_4).trans c15_4_0
        have c16_4_1 := (hh16.cell (p := ⟨B6, 1, none⟩) hz15_4).trans c15_4_1
        have hz16_4 : B6 < w16.heap.size := Nat.lt_of_lt_of_le hz15_4 hh16.size
        have c16_5_0 := (hh16.cell (p := ⟨B14, 0, none⟩) hz15_5).trans c15_5_0
        have c16_5_1 := (hh16.cell (p := ⟨B14, 1, none⟩) hz15_5).trans c15_5_1
        have hz16_5 : B14 < w16.heap.size := Nat.lt_of_lt_of_le hz15_5 hh16.size
        have Q_16 : Hid (RingOwn lo6 hi6 w16 (.agg #[.slice g0a0 g0n0 g0c0, .slice g0a1 g0n1 g0c1]) (ringMk 1 L0)) := Q_15.out.below hh16
        have HW_16 : Hid (RingAt w16 (.agg #[.slice e0a0 e0n0 e0c0, .slice e0a1 e0n1 e0c1]) L0) := HW_15.out.below hh16
        have HZ16 : Hid (w15.heap.size ≤ w16.heap.size) := hh16.size
        clear c15_0_0 c15_0_1 hz15_0 c15_1_0 c15_1_1 c15_1_2 hz15_1 c15_2_0 c15_2_1 hz15_2 c15_3_0 c15_3_1 hz15_3 c15_4_0 c15_4_1 hz15_4 c15_5_0 c15_5_1 hz15_5 Q_15 HW_15 hb16 hh16
        go_wp2
        go_ret
        exact ⟨rfl, HB16.out⟩
end Go.Proofs.YtmphcglglnlplaaDoor
