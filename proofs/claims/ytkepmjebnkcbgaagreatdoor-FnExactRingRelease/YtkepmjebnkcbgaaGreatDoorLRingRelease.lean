/-
  The law FnExactRingRelease.
-/
import Derived.Test.YtkepmjebnkcbgaaGreatDoorGW404
import Derived.Test.YtkepmjebnkcbgaaGreatDoorGW490
import Derived.Deep.DeepCutAuto
import Derived.Deep.RegionHeld3
namespace Go.Proofs.YtkepmjebnkcbgaaGreatDoor
open Go.RowKit
set_option linter.unusedVariables false
set_option maxRecDepth 100000 in
set_option maxHeartbeats 4000000 in
theorem fnExactRingRelease_walk (va0 vn0 : Value) (ks0 : List ByteArray) (ns0 : List Int) (n1 : Int) (va2 ve2 : Value) (xs2 : List Aff) (es2 : List (ByteArray × ByteArray)) (va3 ve3 : Value) (xs3 : List Aff) (es3 : List (ByteArray × ByteArray)) (w : World) (h0 : RingAt w (.agg #[va0, vn0]) (ks0, ns0)) (h1 : (Lit.int .i64 n1).wf = true) (h2 : AffsAt w va2 xs2) (h2x : EntsAt w ve2 es2) (h3 : AffsAt w va3 xs3) (h3x : EntsAt w ve3 es3) (ht0 : powTab w) (ht1 : roundTab w) (ht2 : firstTab w) :
    Calls Tryz.prog 3 #[.agg #[va0, vn0], .int .i64 n1, .agg #[va2, ve2], .agg #[va3, ve3]] w fun e w' => e = .returned (.bool true) ∧ Below w.heap.size w w' := by
  have HA0 : Hid (RingAt w (.agg #[va0, vn0]) (ks0, ns0)) := h0
  clear h0
  have HA2 : Hid (BookAt w (.agg #[va2, ve2]) (xs2, es2)) := ⟨va2, ve2, rfl, h2, h2x⟩
  clear h2 h2x
  have HA3 : Hid (BookAt w (.agg #[va3, ve3]) (xs3, es3)) := ⟨va3, ve3, rfl, h3, h3x⟩
  clear h3 h3x
  have TB0_0 : Hid (powTab w) := ht0
  clear ht0
  have TB1_0 : Hid (roundTab w) := ht1
  clear ht1
  have TB2_0 : Hid (firstTab w) := ht2
  clear ht2
  obtain ⟨L0, hL0⟩ : ∃ L, rrT (ks0, ns0) n1 xs2 es2 xs3 es3 = L := ⟨_, rfl⟩
  obtain ⟨L1, hL1⟩ : ∃ L, rrB (ks0, ns0) n1 xs2 es2 xs3 es3 = L := ⟨_, rfl⟩
  have HSM : Hid (ReleaseSm L0) := by rw [← hL0]; exact rof_small _ n1 xs2 es2 xs3 es3
  have HSP : Hid (∀ (w : World) (u0 : Value) (u2 : Value) (u3 : Value), RingAt w u0 (ks0, ns0) → BookAt w u2 (xs2, es2) → BookAt w u3 (xs3, es3) → powTab w → roundTab w → firstTab w → Calls Tryz.prog 7 #[u0, .int .i64 n1, u2, u3] w fun e w' => ∃ (qb0 : Int) (qa1 : Option Addr) (qn1 qc1 : Nat) (qa2 : Option Addr) (qn2 qc2 : Nat) (qb3 : Bool) (qa4 : Option Addr) (qn4 qc4 : Nat) (qb5 : ByteArray) (qb6 : ByteArray), e = .returned (.tuple #[.agg #[.int .i64 qb0, .slice qa1 qn1 qc1, .slice qa2 qn2 qc2, .bool qb3, .slice qa4 qn4 qc4, .string qb5, .string qb6], .bool L1]) ∧ RelOwn w.heap.size w'.heap.size w' (.agg #[.int .i64 qb0, .slice qa1 qn1 qc1, .slice qa2 qn2 qc2, .bool qb3, .slice qa4 qn4 qc4, .string qb5, .string qb6]) L0 ∧ Below w.heap.size w w') := fun w u0 u2 u3 g0 g2 g3 t0 t1 t2 => by
    rw [← hL0, ← hL1]
    refine Calls.mono (by obtain ⟨va, ve, rfl, h1, h2⟩ := g2; obtain ⟨ua, ue, rfl, h3, h4⟩ := g3; exact specRingRelease_any w u0 (ks0, ns0) n1 va ve ua ue xs2 es2 xs3 es3 g0 h1 h2 h3 h4 t0 t1 t2) ?_
    rintro e w' ⟨v, rfl, h1, h2⟩
    obtain ⟨_, _, _, _, _, _, _, _, _, _, _, _, _, rfl⟩ := RelAt.form2 h1.at
    exact ⟨_, _, _, _, _, _, _, _, _, _, _, _, _, rfl, h1, h2⟩
  have HIM : Hid (∀ (w : World) (u0 : Value) (u2 : Value) (u3 : Value), RingAt w u0 (ks0, ns0) → BookAt w u2 (xs2, es2) → BookAt w u3 (xs3, es3) → powTab w → roundTab w → firstTab w → Calls Tryz.prog 10 #[u0, .int .i64 n1, u2, u3] w fun e w' => ∃ (qb0 : Int) (qa1 : Option Addr) (qn1 qc1 : Nat) (qa2 : Option Addr) (qn2 qc2 : Nat) (qb3 : Bool) (qa4 : Option Addr) (qn4 qc4 : Nat) (qb5 : ByteArray) (qb6 : ByteArray), e = .returned (.tuple #[.agg #[.int .i64 qb0, .slice qa1 qn1 qc1, .slice qa2 qn2 qc2, .bool qb3, .slice qa4 qn4 qc4, .string qb5, .string qb6], .bool L1]) ∧ RelOwn w.heap.size w'.heap.size w' (.agg #[.int .i64 qb0, .slice qa1 qn1 qc1, .slice qa2 qn2 qc2, .bool qb3, .slice qa4 qn4 qc4, .string qb5, .string qb6]) L0 ∧ Below w.heap.size w w') := fun w u0 u2 u3 g0 g2 g3 t0 t1 t2 => by
    rw [← hL0, ← hL1]
    refine Calls.mono (by obtain ⟨va, ve, rfl, h1, h2⟩ := g2; obtain ⟨ua, ue, rfl, h3, h4⟩ := g3; exact implRingRelease_any w u0 (ks0, ns0) n1 va ve ua ue xs2 es2 xs3 es3 g0 h1 h2 h3 h4 t0 t1 t2) ?_
    rintro e w' ⟨v, rfl, h1, h2⟩
    obtain ⟨_, _, _, _, _, _, _, _, _, _, _, _, _, rfl⟩ := RelAt.form2 h1.at
    exact ⟨_, _, _, _, _, _, _, _, _, _, _, _, _, rfl, h1, h2⟩
  clear hL0 hL1
  go_enter Tryz.func3, Tryz.ntmps3
  go_wp2_with fail
  have HX0 : Hid (Below w.heap.size w (((w.alloc (.cells #[va0, vn0] 25)).alloc (.cells #[va2, ve2] 29)).alloc (.cells #[va3, ve3] 29))) := ((((Below.refl _ _).alloc (Nat.le_refl _) _).alloc (by simp <;> omega) _).alloc (by simp <;> omega) _)
  refine (szRing_u _ _ (ks0, ns0) _ (HA0.out.below HX0.out) (by omega) (by omega)).mono ?_
  rintro e w1 ⟨⟨r0, rfl, hr0, hq0⟩, hb1⟩
  have HR0 : Hid (0 ≤ r0 → RingSm (ks0, ns0)) := hq0
  clear hq0
  have hh1 : Below w.heap.size w w1 := Below.trans HX0.out (Below.mono hb1 (Below.size HX0.out))
  have HB1 : Hid (Below w.heap.size w w1) := hh1
  have c1_0_0 : w1.cell? ⟨(w.heap.size), 0, none⟩ = some (va0) := (hb1.cell (p := ⟨(w.heap.size), 0, none⟩) (by simp <;> omega)).trans (by simp [go_sem])
  have c1_0_1 : w1.cell? ⟨(w.heap.size), 1, none⟩ = some (vn0) := (hb1.cell (p := ⟨(w.heap.size), 1, none⟩) (by simp <;> omega)).trans (by simp [go_sem])
  have hz1_0 : (w.heap.size) < w1.heap.size := by have := hb1.size; simp at this; omega
  have c1_1_0 : w1.cell? ⟨(w.heap.size + 1), 0, none⟩ = some (va2) := (hb1.cell (p := ⟨(w.heap.size + 1), 0, none⟩) (by simp <;> omega)).trans (by simp [go_sem])
  have c1_1_1 : w1.cell? ⟨(w.heap.size + 1), 1, none⟩ = some (ve2) := (hb1.cell (p := ⟨(w.heap.size + 1), 1, none⟩) (by simp <;> omega)).trans (by simp [go_sem])
  have hz1_1 : (w.heap.size + 1) < w1.heap.size := by have := hb1.size; simp at this; omega
  have c1_2_0 : w1.cell? ⟨(w.heap.size + 1 + 1), 0, none⟩ = some (va3) := (hb1.cell (p := ⟨(w.heap.size + 1 + 1), 0, none⟩) (by simp <;> omega)).trans (by simp [go_sem])
  have c1_2_1 : w1.cell? ⟨(w.heap.size + 1 + 1), 1, none⟩ = some (ve3) := (hb1.cell (p := ⟨(w.heap.size + 1 + 1), 1, none⟩) (by simp <;> omega)).trans (by simp [go_sem])
  have hz1_2 : (w.heap.size + 1 + 1) < w1.heap.size := by have := hb1.size; simp at this; omega
  have HZ1 : Hid (w.heap.size + 3 ≤ w1.heap.size) := by have := hb1.size; simp at this; show _ ≤ _; omega
  clear hb1 hh1
  by_cases hn0 : r0 < 0
  · go_wp2
    go_ret
    exact ⟨rfl, HB1.out⟩
  have HN0 : Hid (RingSm (ks0, ns0)) := HR0.out (by omega)
  go_wp2_with fail
  refine (szBook_u _ _ (xs2, es2) _ (HA2.out.below HB1.out) (by omega) (by omega)).mono ?_
  rintro e w2 ⟨⟨r2, rfl, hr2, hq2⟩, hb2⟩
  have HR2 : Hid (0 ≤ r2 → BookSm (xs2, es2)) := hq2
  clear hq2
  have hh2 : Below w1.heap.size w1 w2 := hb2
  have HB2 : Hid (Below w.heap.size w w2) := HB1.out.trans (hh2.mono HB1.out.size)
  have c2_0_0 := cl hh2 hz1_0 c1_0_0
  have c2_0_1 := cl hh2 hz1_0 c1_0_1
  have hz2_0 : (w.heap.size) < w2.heap.size := Nat.lt_of_lt_of_le hz1_0 hh2.size
  have c2_1_0 := cl hh2 hz1_1 c1_1_0
  have c2_1_1 := cl hh2 hz1_1 c1_1_1
  have hz2_1 : (w.heap.size + 1) < w2.heap.size := Nat.lt_of_lt_of_le hz1_1 hh2.size
  have c2_2_0 := cl hh2 hz1_2 c1_2_0
  have c2_2_1 := cl hh2 hz1_2 c1_2_1
  have hz2_2 : (w.heap.size + 1 + 1) < w2.heap.size := Nat.lt_of_lt_of_le hz1_2 hh2.size
  have HZ2 : Hid (w1.heap.size ≤ w2.heap.size) := hh2.size
  clear c1_0_0 c1_0_1 hz1_0 c1_1_0 c1_1_1 hz1_1 c1_2_0 c1_2_1 hz1_2 hb2 hh2
  by_cases hn2 : r2 < 0
  · go_wp2
    go_ret
    exact ⟨rfl, HB2.out⟩
  have HN2 : Hid (BookSm (xs2, es2)) := HR2.out (by omega)
  go_wp2_with fail
  refine (szBook_u _ _ (xs3, es3) _ (HA3.out.below HB2.out) (by omega) (by omega)).mono ?_
  rintro e w3 ⟨⟨r3, rfl, hr3, hq3⟩, hb3⟩
  have HR3 : Hid (0 ≤ r3 → BookSm (xs3, es3)) := hq3
  clear hq3
  have hh3 : Below w2.heap.size w2 w3 := hb3
  have HB3 : Hid (Below w.heap.size w w3) := HB2.out.trans (hh3.mono HB2.out.size)
  have c3_0_0 := cl hh3 hz2_0 c2_0_0
  have c3_0_1 := cl hh3 hz2_0 c2_0_1
  have hz3_0 : (w.heap.size) < w3.heap.size := Nat.lt_of_lt_of_le hz2_0 hh3.size
  have c3_1_0 := cl hh3 hz2_1 c2_1_0
  have c3_1_1 := cl hh3 hz2_1 c2_1_1
  have hz3_1 : (w.heap.size + 1) < w3.heap.size := Nat.lt_of_lt_of_le hz2_1 hh3.size
  have c3_2_0 := cl hh3 hz2_2 c2_2_0
  have c3_2_1 := cl hh3 hz2_2 c2_2_1
  have hz3_2 : (w.heap.size + 1 + 1) < w3.heap.size := Nat.lt_of_lt_of_le hz2_2 hh3.size
  have HZ3 : Hid (w2.heap.size ≤ w3.heap.size) := hh3.size
  clear c2_0_0 c2_0_1 hz2_0 c2_1_0 c2_1_1 hz2_1 c2_2_0 c2_2_1 hz2_2 hb3 hh3
  by_cases hn3 : r3 < 0
  · go_wp2
    go_ret
    exact ⟨rfl, HB3.out⟩
  have HN3 : Hid (BookSm (xs3, es3)) := HR3.out (by omega)
  go_wp2_with fail
  go_cut [10, 11] (fun u v0 wx => ∃ (Q lo hi : Nat) (p0b0 : Int) (p0a1 : Option Addr) (p0n1 p0c1 : Nat) (p0a2 : Option Addr) (p0n2 p0c2 : Nat) (p0b3 : Bool) (p0a4 : Option Addr) (p0n4 p0c4 : Nat) (p0b5 : ByteArray) (p0b6 : ByteArray), u = .pointer (some ⟨Q, 0, none⟩) ∧ v0 = .bool L1 ∧ wx.heap[Q]? = some (.cells #[.int .i64 p0b0, .slice p0a1 p0n1 p0c1, .slice p0a2 p0n2 p0c2, .bool p0b3, .slice p0a4 p0n4 p0c4, .string p0b5, .string p0b6] 37 (0, 0)) ∧ RelOwn lo hi wx (.agg #[.int .i64 p0b0, .slice p0a1 p0n1 p0c1, .slice p0a2 p0n2 p0c2, .bool p0b3, .slice p0a4 p0n4 p0c4, .string p0b5, .string p0b6]) L0 ∧ w3.heap.size ≤ lo ∧ lo ≤ hi ∧ hi ≤ wx.heap.size ∧ (Q < lo ∨ hi ≤ Q) ∧ Below w3.heap.size w3 wx ∧ w3.heap.size ≤ Q)
  case first =>
    have HS9 : Hid ((Tryz.prog.info? 37).map (·.size) = some 7) := by show _ = _; kernel_rfl
    have HC9 : Hid (∀ V, Below w3.heap.size w3 V → V.cell? ⟨(w.heap.size), 0, none⟩ = some (va0) ∧ V.cell? ⟨(w.heap.size), 1, none⟩ = some (vn0) ∧ V.cell? ⟨(w.heap.size + 1), 0, none⟩ = some (va2) ∧ V.cell? ⟨(w.heap.size + 1), 1, none⟩ = some (ve2) ∧ V.cell? ⟨(w.heap.size + 1 + 1), 0, none⟩ = some (va3) ∧ V.cell? ⟨(w.heap.size + 1 + 1), 1, none⟩ = some (ve3)) := fun V hV => ⟨cl hV hz3_0 c3_0_0, cl hV hz3_0 c3_0_1, cl hV hz3_1 c3_1_0, cl hV hz3_1 c3_1_1, cl hV hz3_2 c3_2_0, cl hV hz3_2 c3_2_1⟩
    refine wp_region_held_drew (S := (fun w' => w'.cell? ⟨(w.heap.size), 0, none⟩ = some (va0) ∧ w'.cell? ⟨(w.heap.size), 1, none⟩ = some (vn0) ∧ w'.cell? ⟨(w.heap.size + 1), 0, none⟩ = some (va2) ∧ w'.cell? ⟨(w.heap.size + 1), 1, none⟩ = some (ve2) ∧ w'.cell? ⟨(w.heap.size + 1 + 1), 0, none⟩ = some (va3) ∧ w'.cell? ⟨(w.heap.size + 1 + 1), 1, none⟩ = some (ve3))) (by kernel_rfl) ?_ (fun hHeld => ?_)
    · exact HC9.out w3 (Below.refl _ _)
    refine tk 0 38 (.agg #[va0, vn0]) ?_
    simp only [Act.put, List.setIfInBounds_toArray, List.set_cons_zero, List.set_cons_succ]
    refine tk 2 40 (.int .i64 n1) ?_
    simp only [Act.put, List.setIfInBounds_toArray, List.set_cons_zero, List.set_cons_succ]
    refine tk 3 41 (.agg #[va2, ve2]) ?_
    simp only [Act.put, List.setIfInBounds_toArray, List.set_cons_zero, List.set_cons_succ]
    refine tk 5 43 (.agg #[va3, ve3]) ?_
    simp only [Act.put, List.setIfInBounds_toArray, List.set_cons_zero, List.set_cons_succ]
    obtain ⟨x3_0, hx⟩ : ∃ X, World.drew w3 = X := ⟨_, rfl⟩
    have Kx3_0 : Hid (Below w3.heap.size w3 x3_0) := by show Below _ _ _; rw [← hx]; exact (Below.refl _ _).drew
    have Zx3_0 : Hid (w3.heap.size ≤ x3_0.heap.size) := Kx3_0.out.size
    rw [hx]
    clear hx c3_0_0 c3_0_1 c3_1_0 c3_1_1 c3_2_0 c3_2_1
    refine wpAnyH_ready (rs := [1, 11]) (by kernel_rfl) (by simp) ?_
    refine AllReadyH.cons rfl (fun K hK => ?_) (AllReadyH.cons rfl (fun K hK => ?_) AllReadyH.nil)
    · skip
      go_simp
      refine (toRing_u _ _ (ks0, ns0) (HA0.out.below (HB3.out.trans (Kx3_0.out.mono HB3.out.size))) HN0.out).mono ?_
      rintro e x3_1 ⟨u0, rfl, ho, hb⟩
      have U0x3_1 : Hid (RingAt x3_1 u0 (ks0, ns0)) := ho.at
      clear ho
      have Zx3_1 : Hid (x3_0.heap.size ≤ x3_1.heap.size) := hb.size
      have Kx3_1 : Hid (Below w3.heap.size w3 x3_1) := Kx3_0.out.trans (hb.mono Kx3_0.out.size)
      clear hb
      refine hK.out _ _ ?_ (fun hHeld => ?_)
      · exact HC9.out _ Kx3_1.out
      clear hK K
      try simp only [Act.put, List.setIfInBounds_toArray, List.set_cons_zero, List.set_cons_succ]
      refine wpAnyH_ready (rs := [4, 11]) (by kernel_rfl) (by simp) ?_
      refine AllReadyH.cons rfl (fun K hK => ?_) (AllReadyH.cons rfl (fun K hK => ?_) AllReadyH.nil)
      · skip
        go_simp
        refine (toBook_u _ _ (xs2, es2) (HA2.out.below (HB3.out.trans (Kx3_1.out.mono HB3.out.size))) HN2.out).mono ?_
        rintro e x3_2 ⟨u2, rfl, ho, hb⟩
        have U2x3_2 : Hid (BookAt x3_2 u2 (xs2, es2)) := ho.at
        clear ho
        have Zx3_2 : Hid (x3_1.heap.size ≤ x3_2.heap.size) := hb.size
        have Kx3_2 : Hid (Below w3.heap.size w3 x3_2) := Kx3_1.out.trans (hb.mono Kx3_1.out.size)
        have U0x3_2 : Hid (RingAt x3_2 u0 (ks0, ns0)) := U0x3_1.out.below hb
        clear hb
        refine hK.out _ _ ?_ (fun hHeld => ?_)
        · exact HC9.out _ Kx3_2.out
        clear hK K
        try simp only [Act.put, List.setIfInBounds_toArray, List.set_cons_zero, List.set_cons_succ]
        refine wpAnyH_ready (rs := [6, 11]) (by kernel_rfl) (by simp) ?_
        refine AllReadyH.cons rfl (fun K hK => ?_) (AllReadyH.cons rfl (fun K hK => ?_) AllReadyH.nil)
        · skip
          go_simp
          refine (toBook_u _ _ (xs3, es3) (HA3.out.below (HB3.out.trans (Kx3_2.out.mono HB3.out.size))) HN3.out).mono ?_
          rintro e x3_3 ⟨u3, rfl, ho, hb⟩
          have U3x3_3 : Hid (BookAt x3_3 u3 (xs3, es3)) := ho.at
          clear ho
          have Zx3_3 : Hid (x3_2.heap.size ≤ x3_3.heap.size) := hb.size
          have Kx3_3 : Hid (Below w3.heap.size w3 x3_3) := Kx3_2.out.trans (hb.mono Kx3_2.out.size)
          have U0x3_3 : Hid (RingAt x3_3 u0 (ks0, ns0)) := U0x3_2.out.below hb
          have U2x3_3 : Hid (BookAt x3_3 u2 (xs2, es2)) := U2x3_2.out.below hb
          clear hb
          refine hK.out _ _ ?_ (fun hHeld => ?_)
          · exact HC9.out _ Kx3_3.out
          clear hK K
          try simp only [Act.put, List.setIfInBounds_toArray, List.set_cons_zero, List.set_cons_succ]
          refine wpAnyH_ready (rs := [7, 11]) (by kernel_rfl) (by simp) ?_
          refine AllReadyH.cons rfl (fun K hK => ?_) (AllReadyH.cons rfl (fun K hK => ?_) AllReadyH.nil)
          · skip
            go_simp
            refine (HSP.out _ _ _ _ U0x3_3.out U2x3_3.out U3x3_3.out (TB0_0.out.below (HB3.out.trans (Kx3_3.out.mono HB3.out.size))) (TB1_0.out.below (HB3.out.trans (Kx3_3.out.mono HB3.out.size))) (TB2_0.out.below (HB3.out.trans (Kx3_3.out.mono HB3.out.size)))).mono ?_
            rintro e x3_4 ⟨p0b0, p0a1, p0n1, p0c1, p0a2, p0n2, p0c2, p0b3, p0a4, p0n4, p0c4, p0b5, p0b6, rfl, hg, hb⟩
            have Gx3_4 : Hid (RelOwn x3_3.heap.size x3_4.heap.size x3_4 (.agg #[.int .i64 p0b0, .slice p0a1 p0n1 p0c1, .slice p0a2 p0n2 p0c2, .bool p0b3, .slice p0a4 p0n4 p0c4, .string p0b5, .string p0b6]) L0) := hg
            clear hg
            have Zx3_4 : Hid (x3_3.heap.size ≤ x3_4.heap.size) := hb.size
            have Kx3_4 : Hid (Below w3.heap.size w3 x3_4) := Kx3_3.out.trans (hb.mono Kx3_3.out.size)
            have U0x3_4 : Hid (RingAt x3_4 u0 (ks0, ns0)) := U0x3_3.out.below hb
            have U2x3_4 : Hid (BookAt x3_4 u2 (xs2, es2)) := U2x3_3.out.below hb
            have U3x3_4 : Hid (BookAt x3_4 u3 (xs3, es3)) := U3x3_3.out.below hb
            clear hb
            refine hK.out _ _ ?_ (fun hHeld => ?_)
            · exact HC9.out _ Kx3_4.out
            clear hK K
            try simp only [Act.put, List.setIfInBounds_toArray, List.set_cons_zero, List.set_cons_succ]
            refine tk 8 37 (.tuple #[.agg #[.int .i64 p0b0, .slice p0a1 p0n1 p0c1, .slice p0a2 p0n2 p0c2, .bool p0b3, .slice p0a4 p0n4 p0c4, .string p0b5, .string p0b6], .bool L1]) ?_
            simp only [Act.put, List.setIfInBounds_toArray, List.set_cons_zero, List.set_cons_succ]
            refine tk 9 46 (.agg #[.int .i64 p0b0, .slice p0a1 p0n1 p0c1, .slice p0a2 p0n2 p0c2, .bool p0b3, .slice p0a4 p0n4 p0c4, .string p0b5, .string p0b6]) ?_
            simp only [Act.put, List.setIfInBounds_toArray, List.set_cons_zero, List.set_cons_succ]
            refine tk 10 47 (.bool L1) ?_
            simp only [Act.put, List.setIfInBounds_toArray, List.set_cons_zero, List.set_cons_succ]
            refine wpAnyH_ready (rs := [11]) (by kernel_rfl) (by simp) ?_
            refine AllReadyH.cons rfl (fun K hK => ?_) AllReadyH.nil
            go_simp
            have NA : Hid ((x3_4.alloc (.cells #[.int .i64 0, .slice none 0 0, .slice none 0 0, .bool false, .slice none 0 0, .string ⟨#[]⟩, .string ⟨#[]⟩] 37)).heap[x3_4.heap.size]? = some (.cells #[.int .i64 0, .slice none 0 0, .slice none 0 0, .bool false, .slice none 0 0, .string ⟨#[]⟩, .string ⟨#[]⟩] 37 (0, 0))) := heap_alloc_last _ _
            obtain ⟨x3_5, hx⟩ : ∃ X, x3_4.alloc (.cells #[.int .i64 0, .slice none 0 0, .slice none 0 0, .bool false, .slice none 0 0, .string ⟨#[]⟩, .string ⟨#[]⟩] 37) = X := ⟨_, rfl⟩
            have hb : Below x3_4.heap.size x3_4 x3_5 := by rw [← hx]; exact (Below.refl _ _).alloc (Nat.le_refl _) _
            have Zx3_5 : Hid (x3_4.heap.size < x3_5.heap.size) := by show _ < _; rw [← hx]; simp
            have Nx3_5 : Hid (x3_5.heap[x3_4.heap.size]? = some (.cells #[.int .i64 0, .slice none 0 0, .slice none 0 0, .bool false, .slice none 0 0, .string ⟨#[]⟩, .string ⟨#[]⟩] 37 (0, 0))) := by show _ = _; rw [← hx]; exact NA.out
            have HQ : Hid (w3.heap.size ≤ x3_4.heap.size) := Kx3_4.out.size
            rw [hx]
            clear hx NA
            have Kx3_5 : Hid (Below w3.heap.size w3 x3_5) := Kx3_4.out.trans (hb.mono Kx3_4.out.size)
            have Gx3_5 : Hid (RelOwn x3_3.heap.size x3_4.heap.size x3_5 (.agg #[.int .i64 p0b0, .slice p0a1 p0n1 p0c1, .slice p0a2 p0n2 p0c2, .bool p0b3, .slice p0a4 p0n4 p0c4, .string p0b5, .string p0b6]) L0) := Gx3_4.out.below hb
            clear hb
            refine hK.out _ _ ?_ (fun hHeld => ?_)
            · exact HC9.out _ Kx3_5.out
            clear hK K
            try simp only [Act.put, List.setIfInBounds_toArray, List.set_cons_zero, List.set_cons_succ]
            refine wpAnyH_ready (rs := [12]) (by kernel_rfl) (by simp) ?_
            refine AllReadyH.cons rfl (fun K hK => ?_) AllReadyH.nil
            refine step_store_row rfl 37 (.tmp 10) (.tmp 46) rfl (x3_4.heap.size) #[.int .i64 p0b0, .slice p0a1 p0n1 p0c1, .slice p0a2 p0n2 p0c2, .bool p0b3, .slice p0a4 p0n4 p0c4, .string p0b5, .string p0b6] rfl rfl 37 _ Nx3_5.out HS9.out rfl (by simp [Value.oneCell']) rfl ?_
            obtain ⟨V, hV⟩ : ∃ X, x3_5.setRow (x3_4.heap.size) #[.int .i64 p0b0, .slice p0a1 p0n1 p0c1, .slice p0a2 p0n2 p0c2, .bool p0b3, .slice p0a4 p0n4 p0c4, .string p0b5, .string p0b6] = X := ⟨_, rfl⟩
            have KV : Hid (Below w3.heap.size w3 V) := by show Below _ _ _; rw [← hV]; exact below_setRow Kx3_5.out HQ.out _
            have NV : Hid (V.heap[x3_4.heap.size]? = some (.cells #[.int .i64 p0b0, .slice p0a1 p0n1 p0c1, .slice p0a2 p0n2 p0c2, .bool p0b3, .slice p0a4 p0n4 p0c4, .string p0b5, .string p0b6] 37 (0, 0))) := by show _ = _; rw [← hV]; exact setRow_heap _ _ _ _ _ _ Nx3_5.out
            have zx3_0 := Zx3_0.out
            have zx3_1 := Zx3_1.out
            have zx3_2 := Zx3_2.out
            have zx3_3 := Zx3_3.out
            have zx3_4 := Zx3_4.out
            have zx3_5 := Zx3_5.out
            have hsV : V.heap.size = x3_5.heap.size := by rw [← hV]; simp
            have GV : Hid (RelOwn x3_3.heap.size x3_4.heap.size V (.agg #[.int .i64 p0b0, .slice p0a1 p0n1 p0c1, .slice p0a2 p0n2 p0c2, .bool p0b3, .slice p0a4 p0n4 p0c4, .string p0b5, .string p0b6]) L0) := by
              show RelOwn _ _ _ _ _
              rw [← hV]
              exact relOwn_setRow486 Gx3_5.out (q := x3_4.heap.size) (by omega) _
            rw [hV]
            clear hV
            refine hK.out _ _ ?_ (fun hHeld => ?_)
            · exact HC9.out _ KV.out
            clear hK K
            try simp only [Act.put, List.setIfInBounds_toArray, List.set_cons_zero, List.set_cons_succ]
            refine tk 13 11 (.bool L1) ?_
            simp only [Act.put, List.setIfInBounds_toArray, List.set_cons_zero, List.set_cons_succ]
            refine wpAnyH_done (by kernel_rfl) ?_ _
            go_wp2
            go_meet
            case rel =>
              exact ⟨_, _, _, _, _, _, _, _, _, _, _, _, _, _, _, _, rfl, rfl, NV.out, GV.out, by omega, by omega, by omega, by omega, KV.out, HQ.out⟩
          · skip
            go_simp
            have NA : Hid ((x3_3.alloc (.cells #[.int .i64 0, .slice none 0 0, .slice none 0 0, .bool false, .slice none 0 0, .string ⟨#[]⟩, .string ⟨#[]⟩] 37)).heap[x3_3.heap.size]? = some (.cells #[.int .i64 0, .slice none 0 0, .slice none 0 0, .bool false, .slice none 0 0, .string ⟨#[]⟩, .string ⟨#[]⟩] 37 (0, 0))) := heap_alloc_last _ _
            obtain ⟨x3_6, hx⟩ : ∃ X, x3_3.alloc (.cells #[.int .i64 0, .slice none 0 0, .slice none 0 0, .bool false, .slice none 0 0, .string ⟨#[]⟩, .string ⟨#[]⟩] 37) = X := ⟨_, rfl⟩
            have hb : Below x3_3.heap.size x3_3 x3_6 := by rw [← hx]; exact (Below.refl _ _).alloc (Nat.le_refl _) _
            have Zx3_6 : Hid (x3_3.heap.size < x3_6.heap.size) := by show _ < _; rw [← hx]; simp
            have Nx3_6 : Hid (x3_6.heap[x3_3.heap.size]? = some (.cells #[.int .i64 0, .slice none 0 0, .slice none 0 0, .bool false, .slice none 0 0, .string ⟨#[]⟩, .string ⟨#[]⟩] 37 (0, 0))) := by show _ = _; rw [← hx]; exact NA.out
            have HQ : Hid (w3.heap.size ≤ x3_3.heap.size) := Kx3_3.out.size
            rw [hx]
            clear hx NA
            have Kx3_6 : Hid (Below w3.heap.size w3 x3_6) := Kx3_3.out.trans (hb.mono Kx3_3.out.size)
            have U0x3_6 : Hid (RingAt x3_6 u0 (ks0, ns0)) := U0x3_3.out.below hb
            have U2x3_6 : Hid (BookAt x3_6 u2 (xs2, es2)) := U2x3_3.out.below hb
            have U3x3_6 : Hid (BookAt x3_6 u3 (xs3, es3)) := U3x3_3.out.below hb
            clear hb
            refine hK.out _ _ ?_ (fun hHeld => ?_)
            · exact HC9.out _ Kx3_6.out
            clear hK K
            try simp only [Act.put, List.setIfInBounds_toArray, List.set_cons_zero, List.set_cons_succ]
            refine wpAnyH_ready (rs := [7]) (by kernel_rfl) (by simp) ?_
            refine AllReadyH.cons rfl (fun K hK => ?_) AllReadyH.nil
            go_simp
            refine (HSP.out _ _ _ _ U0x3_6.out U2x3_6.out U3x3_6.out (TB0_0.out.below (HB3.out.trans (Kx3_6.out.mono HB3.out.size))) (TB1_0.out.below (HB3.out.trans (Kx3_6.out.mono HB3.out.size))) (TB2_0.out.below (HB3.out.trans (Kx3_6.out.mono HB3.out.size)))).mono ?_
            rintro e x3_7 ⟨p0b0, p0a1, p0n1, p0c1, p0a2, p0n2, p0c2, p0b3, p0a4, p0n4, p0c4, p0b5, p0b6, rfl, hg, hb⟩
            have Gx3_7 : Hid (RelOwn x3_6.heap.size x3_7.heap.size x3_7 (.agg #[.int .i64 p0b0, .slice p0a1 p0n1 p0c1, .slice p0a2 p0n2 p0c2, .bool p0b3, .slice p0a4 p0n4 p0c4, .string p0b5, .string p0b6]) L0) := hg
            clear hg
            have Zx3_7 : Hid (x3_6.heap.size ≤ x3_7.heap.size) := hb.size
            have Kx3_7 : Hid (Below w3.heap.size w3 x3_7) := Kx3_6.out.trans (hb.mono Kx3_6.out.size)
            have Nx3_7 : Hid (x3_7.heap[x3_3.heap.size]? = some (.cells #[.int .i64 0, .slice none 0 0, .slice none 0 0, .bool false, .slice none 0 0, .string ⟨#[]⟩, .string ⟨#[]⟩] 37 (0, 0))) := (hb.block _ (Array.getElem?_eq_some_iff.1 Nx3_6.out).1).trans Nx3_6.out
            have U0x3_7 : Hid (RingAt x3_7 u0 (ks0, ns0)) := U0x3_6.out.below hb
            have U2x3_7 : Hid (BookAt x3_7 u2 (xs2, es2)) := U2x3_6.out.below hb
            have U3x3_7 : Hid (BookAt x3_7 u3 (xs3, es3)) := U3x3_6.out.below hb
            clear hb
            refine hK.out _ _ ?_ (fun hHeld => ?_)
            · exact HC9.out _ Kx3_7.out
            clear hK K
            try simp only [Act.put, List.setIfInBounds_toArray, List.set_cons_zero, List.set_cons_succ]
            refine tk 8 37 (.tuple #[.agg #[.int .i64 p0b0, .slice p0a1 p0n1 p0c1, .slice p0a2 p0n2 p0c2, .bool p0b3, .slice p0a4 p0n4 p0c4, .string p0b5, .string p0b6], .bool L1]) ?_
            simp only [Act.put, List.setIfInBounds_toArray, List.set_cons_zero, List.set_cons_succ]
            refine tk 9 46 (.agg #[.int .i64 p0b0, .slice p0a1 p0n1 p0c1, .slice p0a2 p0n2 p0c2, .bool p0b3, .slice p0a4 p0n4 p0c4, .string p0b5, .string p0b6]) ?_
            simp only [Act.put, List.setIfInBounds_toArray, List.set_cons_zero, List.set_cons_succ]
            refine tk 10 47 (.bool L1) ?_
            simp only [Act.put, List.setIfInBounds_toArray, List.set_cons_zero, List.set_cons_succ]
            refine wpAnyH_ready (rs := [12]) (by kernel_rfl) (by simp) ?_
            refine AllReadyH.cons rfl (fun K hK => ?_) AllReadyH.nil
            refine step_store_row rfl 37 (.tmp 10) (.tmp 46) rfl (x3_3.heap.size) #[.int .i64 p0b0, .slice p0a1 p0n1 p0c1, .slice p0a2 p0n2 p0c2, .bool p0b3, .slice p0a4 p0n4 p0c4, .string p0b5, .string p0b6] rfl rfl 37 _ Nx3_7.out HS9.out rfl (by simp [Value.oneCell']) rfl ?_
            obtain ⟨V, hV⟩ : ∃ X, x3_7.setRow (x3_3.heap.size) #[.int .i64 p0b0, .slice p0a1 p0n1 p0c1, .slice p0a2 p0n2 p0c2, .bool p0b3, .slice p0a4 p0n4 p0c4, .string p0b5, .string p0b6] = X := ⟨_, rfl⟩
            have KV : Hid (Below w3.heap.size w3 V) := by show Below _ _ _; rw [← hV]; exact below_setRow Kx3_7.out HQ.out _
            have NV : Hid (V.heap[x3_3.heap.size]? = some (.cells #[.int .i64 p0b0, .slice p0a1 p0n1 p0c1, .slice p0a2 p0n2 p0c2, .bool p0b3, .slice p0a4 p0n4 p0c4, .string p0b5, .string p0b6] 37 (0, 0))) := by show _ = _; rw [← hV]; exact setRow_heap _ _ _ _ _ _ Nx3_7.out
            have zx3_0 := Zx3_0.out
            have zx3_1 := Zx3_1.out
            have zx3_2 := Zx3_2.out
            have zx3_3 := Zx3_3.out
            have zx3_6 := Zx3_6.out
            have zx3_7 := Zx3_7.out
            have hsV : V.heap.size = x3_7.heap.size := by rw [← hV]; simp
            have GV : Hid (RelOwn x3_6.heap.size x3_7.heap.size V (.agg #[.int .i64 p0b0, .slice p0a1 p0n1 p0c1, .slice p0a2 p0n2 p0c2, .bool p0b3, .slice p0a4 p0n4 p0c4, .string p0b5, .string p0b6]) L0) := by
              show RelOwn _ _ _ _ _
              rw [← hV]
              exact relOwn_setRow486 Gx3_7.out (q := x3_3.heap.size) (by omega) _
            rw [hV]
            clear hV
            refine hK.out _ _ ?_ (fun hHeld => ?_)
            · exact HC9.out _ KV.out
            clear hK K
            try simp only [Act.put, List.setIfInBounds_toArray, List.set_cons_zero, List.set_cons_succ]
            refine tk 13 11 (.bool L1) ?_
            simp only [Act.put, List.setIfInBounds_toArray, List.set_cons_zero, List.set_cons_succ]
            refine wpAnyH_done (by kernel_rfl) ?_ _
            go_wp2
            go_meet
            case rel =>
              exact ⟨_, _, _, _, _, _, _, _, _, _, _, _, _, _, _, _, rfl, rfl, NV.out, GV.out, by omega, by omega, by omega, by omega, KV.out, HQ.out⟩
        · skip
          go_simp
          have NA : Hid ((x3_2.alloc (.cells #[.int .i64 0, .slice none 0 0, .slice none 0 0, .bool false, .slice none 0 0, .string ⟨#[]⟩, .string ⟨#[]⟩] 37)).heap[x3_2.heap.size]? = some (.cells #[.int .i64 0, .slice none 0 0, .slice none 0 0, .bool false, .slice none 0 0, .string ⟨#[]⟩, .string ⟨#[]⟩] 37 (0, 0))) := heap_alloc_last _ _
          obtain ⟨x3_8, hx⟩ : ∃ X, x3_2.alloc (.cells #[.int .i64 0, .slice none 0 0, .slice none 0 0, .bool false, .slice none 0 0, .string ⟨#[]⟩, .string ⟨#[]⟩] 37) = X := ⟨_, rfl⟩
          have hb : Below x3_2.heap.size x3_2 x3_8 := by rw [← hx]; exact (Below.refl _ _).alloc (Nat.le_refl _) _
          have Zx3_8 : Hid (x3_2.heap.size < x3_8.heap.size) := by show _ < _; rw [← hx]; simp
          have Nx3_8 : Hid (x3_8.heap[x3_2.heap.size]? = some (.cells #[.int .i64 0, .slice none 0 0, .slice none 0 0, .bool false, .slice none 0 0, .string ⟨#[]⟩, .string ⟨#[]⟩] 37 (0, 0))) := by show _ = _; rw [← hx]; exact NA.out
          have HQ : Hid (w3.heap.size ≤ x3_2.heap.size) := Kx3_2.out.size
          rw [hx]
          clear hx NA
          have Kx3_8 : Hid (Below w3.heap.size w3 x3_8) := Kx3_2.out.trans (hb.mono Kx3_2.out.size)
          have U0x3_8 : Hid (RingAt x3_8 u0 (ks0, ns0)) := U0x3_2.out.below hb
          have U2x3_8 : Hid (BookAt x3_8 u2 (xs2, es2)) := U2x3_2.out.below hb
          clear hb
          refine hK.out _ _ ?_ (fun hHeld => ?_)
          · exact HC9.out _ Kx3_8.out
          clear hK K
          try simp only [Act.put, List.setIfInBounds_toArray, List.set_cons_zero, List.set_cons_succ]
          refine wpAnyH_ready (rs := [6]) (by kernel_rfl) (by simp) ?_
          refine AllReadyH.cons rfl (fun K hK => ?_) AllReadyH.nil
          go_simp
          refine (toBook_u _ _ (xs3, es3) (HA3.out.below (HB3.out.trans (Kx3_8.out.mono HB3.out.size))) HN3.out).mono ?_
          rintro e x3_9 ⟨u3, rfl, ho, hb⟩
          have U3x3_9 : Hid (BookAt x3_9 u3 (xs3, es3)) := ho.at
          clear ho
          have Zx3_9 : Hid (x3_8.heap.size ≤ x3_9.heap.size) := hb.size
          have Kx3_9 : Hid (Below w3.heap.size w3 x3_9) := Kx3_8.out.trans (hb.mono Kx3_8.out.size)
          have Nx3_9 : Hid (x3_9.heap[x3_2.heap.size]? = some (.cells #[.int .i64 0, .slice none 0 0, .slice none 0 0, .bool false, .slice none 0 0, .string ⟨#[]⟩, .string ⟨#[]⟩] 37 (0, 0))) := (hb.block _ (Array.getElem?_eq_some_iff.1 Nx3_8.out).1).trans Nx3_8.out
          have U0x3_9 : Hid (RingAt x3_9 u0 (ks0, ns0)) := U0x3_8.out.below hb
          have U2x3_9 : Hid (BookAt x3_9 u2 (xs2, es2)) := U2x3_8.out.below hb
          clear hb
          refine hK.out _ _ ?_ (fun hHeld => ?_)
          · exact HC9.out _ Kx3_9.out
          clear hK K
          try simp only [Act.put, List.setIfInBounds_toArray, List.set_cons_zero, List.set_cons_succ]
          refine wpAnyH_ready (rs := [7]) (by kernel_rfl) (by simp) ?_
          refine AllReadyH.cons rfl (fun K hK => ?_) AllReadyH.nil
          go_simp
          refine (HSP.out _ _ _ _ U0x3_9.out U2x3_9.out U3x3_9.out (TB0_0.out.below (HB3.out.trans (Kx3_9.out.mono HB3.out.size))) (TB1_0.out.below (HB3.out.trans (Kx3_9.out.mono HB3.out.size))) (TB2_0.out.below (HB3.out.trans (Kx3_9.out.mono HB3.out.size)))).mono ?_
          rintro e x3_10 ⟨p0b0, p0a1, p0n1, p0c1, p0a2, p0n2, p0c2, p0b3, p0a4, p0n4, p0c4, p0b5, p0b6, rfl, hg, hb⟩
          have Gx3_10 : Hid (RelOwn x3_9.heap.size x3_10.heap.size x3_10 (.agg #[.int .i64 p0b0, .slice p0a1 p0n1 p0c1, .slice p0a2 p0n2 p0c2, .bool p0b3, .slice p0a4 p0n4 p0c4, .string p0b5, .string p0b6]) L0) := hg
          clear hg
          have Zx3_10 : Hid (x3_9.heap.size ≤ x3_10.heap.size) := hb.size
          have Kx3_10 : Hid (Below w3.heap.size w3 x3_10) := Kx3_9.out.trans (hb.mono Kx3_9.out.size)
          have Nx3_10 : Hid (x3_10.heap[x3_2.heap.size]? = some (.cells #[.int .i64 0, .slice none 0 0, .slice none 0 0, .bool false, .slice none 0 0, .string ⟨#[]⟩, .string ⟨#[]⟩] 37 (0, 0))) := (hb.block _ (Array.getElem?_eq_some_iff.1 Nx3_9.out).1).trans Nx3_9.out
          have U0x3_10 : Hid (RingAt x3_10 u0 (ks0, ns0)) := U0x3_9.out.below hb
          have U2x3_10 : Hid (BookAt x3_10 u2 (xs2, es2)) := U2x3_9.out.below hb
          have U3x3_10 : Hid (BookAt x3_10 u3 (xs3, es3)) := U3x3_9.out.below hb
          clear hb
          refine hK.out _ _ ?_ (fun hHeld => ?_)
          · exact HC9.out _ Kx3_10.out
          clear hK K
          try simp only [Act.put, List.setIfInBounds_toArray, List.set_cons_zero, List.set_cons_succ]
          refine tk 8 37 (.tuple #[.agg #[.int .i64 p0b0, .slice p0a1 p0n1 p0c1, .slice p0a2 p0n2 p0c2, .bool p0b3, .slice p0a4 p0n4 p0c4, .string p0b5, .string p0b6], .bool L1]) ?_
          simp only [Act.put, List.setIfInBounds_toArray, List.set_cons_zero, List.set_cons_succ]
          refine tk 9 46 (.agg #[.int .i64 p0b0, .slice p0a1 p0n1 p0c1, .slice p0a2 p0n2 p0c2, .bool p0b3, .slice p0a4 p0n4 p0c4, .string p0b5, .string p0b6]) ?_
          simp only [Act.put, List.setIfInBounds_toArray, List.set_cons_zero, List.set_cons_succ]
          refine tk 10 47 (.bool L1) ?_
          simp only [Act.put, List.setIfInBounds_toArray, List.set_cons_zero, List.set_cons_succ]
          refine wpAnyH_ready (rs := [12]) (by kernel_rfl) (by simp) ?_
          refine AllReadyH.cons rfl (fun K hK => ?_) AllReadyH.nil
          refine step_store_row rfl 37 (.tmp 10) (.tmp 46) rfl (x3_2.heap.size) #[.int .i64 p0b0, .slice p0a1 p0n1 p0c1, .slice p0a2 p0n2 p0c2, .bool p0b3, .slice p0a4 p0n4 p0c4, .string p0b5, .string p0b6] rfl rfl 37 _ Nx3_10.out HS9.out rfl (by simp [Value.oneCell']) rfl ?_
          obtain ⟨V, hV⟩ : ∃ X, x3_10.setRow (x3_2.heap.size) #[.int .i64 p0b0, .slice p0a1 p0n1 p0c1, .slice p0a2 p0n2 p0c2, .bool p0b3, .slice p0a4 p0n4 p0c4, .string p0b5, .string p0b6] = X := ⟨_, rfl⟩
          have KV : Hid (Below w3.heap.size w3 V) := by show Below _ _ _; rw [← hV]; exact below_setRow Kx3_10.out HQ.out _
          have NV : Hid (V.heap[x3_2.heap.size]? = some (.cells #[.int .i64 p0b0, .slice p0a1 p0n1 p0c1, .slice p0a2 p0n2 p0c2, .bool p0b3, .slice p0a4 p0n4 p0c4, .string p0b5, .string p0b6] 37 (0, 0))) := by show _ = _; rw [← hV]; exact setRow_heap _ _ _ _ _ _ Nx3_10.out
          have zx3_0 := Zx3_0.out
          have zx3_1 := Zx3_1.out
          have zx3_2 := Zx3_2.out
          have zx3_8 := Zx3_8.out
          have zx3_9 := Zx3_9.out
          have zx3_10 := Zx3_10.out
          have hsV : V.heap.size = x3_10.heap.size := by rw [← hV]; simp
          have GV : Hid (RelOwn x3_9.heap.size x3_10.heap.size V (.agg #[.int .i64 p0b0, .slice p0a1 p0n1 p0c1, .slice p0a2 p0n2 p0c2, .bool p0b3, .slice p0a4 p0n4 p0c4, .string p0b5, .string p0b6]) L0) := by
            show RelOwn _ _ _ _ _
            rw [← hV]
            exact relOwn_setRow486 Gx3_10.out (q := x3_2.heap.size) (by omega) _
          rw [hV]
          clear hV
          refine hK.out _ _ ?_ (fun hHeld => ?_)
          · exact HC9.out _ KV.out
          clear hK K
          try simp only [Act.put, List.setIfInBounds_toArray, List.set_cons_zero, List.set_cons_succ]
          refine tk 13 11 (.bool L1) ?_
          simp only [Act.put, List.setIfInBounds_toArray, List.set_cons_zero, List.set_cons_succ]
          refine wpAnyH_done (by kernel_rfl) ?_ _
          go_wp2
          go_meet
          case rel =>
            exact ⟨_, _, _, _, _, _, _, _, _, _, _, _, _, _, _, _, rfl, rfl, NV.out, GV.out, by omega, by omega, by omega, by omega, KV.out, HQ.out⟩
      · skip
        go_simp
        have NA : Hid ((x3_1.alloc (.cells #[.int .i64 0, .slice none 0 0, .slice none 0 0, .bool false, .slice none 0 0, .string ⟨#[]⟩, .string ⟨#[]⟩] 37)).heap[x3_1.heap.size]? = some (.cells #[.int .i64 0, .slice none 0 0, .slice none 0 0, .bool false, .slice none 0 0, .string ⟨#[]⟩, .string ⟨#[]⟩] 37 (0, 0))) := heap_alloc_last _ _
        obtain ⟨x3_11, hx⟩ : ∃ X, x3_1.alloc (.cells #[.int .i64 0, .slice none 0 0, .slice none 0 0, .bool false, .slice none 0 0, .string ⟨#[]⟩, .string ⟨#[]⟩] 37) = X := ⟨_, rfl⟩
        have hb : Below x3_1.heap.size x3_1 x3_11 := by rw [← hx]; exact (Below.refl _ _).alloc (Nat.le_refl _) _
        have Zx3_11 : Hid (x3_1.heap.size < x3_11.heap.size) := by show _ < _; rw [← hx]; simp
        have Nx3_11 : Hid (x3_11.heap[x3_1.heap.size]? = some (.cells #[.int .i64 0, .slice none 0 0, .slice none 0 0, .bool false, .slice none 0 0, .string ⟨#[]⟩, .string ⟨#[]⟩] 37 (0, 0))) := by show _ = _; rw [← hx]; exact NA.out
        have HQ : Hid (w3.heap.size ≤ x3_1.heap.size) := Kx3_1.out.size
        rw [hx]
        clear hx NA
        have Kx3_11 : Hid (Below w3.heap.size w3 x3_11) := Kx3_1.out.trans (hb.mono Kx3_1.out.size)
        have U0x3_11 : Hid (RingAt x3_11 u0 (ks0, ns0)) := U0x3_1.out.below hb
        clear hb
        refine hK.out _ _ ?_ (fun hHeld => ?_)
        · exact HC9.out _ Kx3_11.out
        clear hK K
        try simp only [Act.put, List.setIfInBounds_toArray, List.set_cons_zero, List.set_cons_succ]
        refine wpAnyH_ready (rs := [4]) (by kernel_rfl) (by simp) ?_
        refine AllReadyH.cons rfl (fun K hK => ?_) AllReadyH.nil
        go_simp
        refine (toBook_u _ _ (xs2, es2) (HA2.out.below (HB3.out.trans (Kx3_11.out.mono HB3.out.size))) HN2.out).mono ?_
        rintro e x3_12 ⟨u2, rfl, ho, hb⟩
        have U2x3_12 : Hid (BookAt x3_12 u2 (xs2, es2)) := ho.at
        clear ho
        have Zx3_12 : Hid (x3_11.heap.size ≤ x3_12.heap.size) := hb.size
        have Kx3_12 : Hid (Below w3.heap.size w3 x3_12) := Kx3_11.out.trans (hb.mono Kx3_11.out.size)
        have Nx3_12 : Hid (x3_12.heap[x3_1.heap.size]? = some (.cells #[.int .i64 0, .slice none 0 0, .slice none 0 0, .bool false, .slice none 0 0, .string ⟨#[]⟩, .string ⟨#[]⟩] 37 (0, 0))) := (hb.block _ (Array.getElem?_eq_some_iff.1 Nx3_11.out).1).trans Nx3_11.out
        have U0x3_12 : Hid (RingAt x3_12 u0 (ks0, ns0)) := U0x3_11.out.below hb
        clear hb
        refine hK.out _ _ ?_ (fun hHeld => ?_)
        · exact HC9.out _ Kx3_12.out
        clear hK K
        try simp only [Act.put, List.setIfInBounds_toArray, List.set_cons_zero, List.set_cons_succ]
        refine wpAnyH_ready (rs := [6]) (by kernel_rfl) (by simp) ?_
        refine AllReadyH.cons rfl (fun K hK => ?_) AllReadyH.nil
        go_simp
        refine (toBook_u _ _ (xs3, es3) (HA3.out.below (HB3.out.trans (Kx3_12.out.mono HB3.out.size))) HN3.out).mono ?_
        rintro e x3_13 ⟨u3, rfl, ho, hb⟩
        have U3x3_13 : Hid (BookAt x3_13 u3 (xs3, es3)) := ho.at
        clear ho
        have Zx3_13 : Hid (x3_12.heap.size ≤ x3_13.heap.size) := hb.size
        have Kx3_13 : Hid (Below w3.heap.size w3 x3_13) := Kx3_12.out.trans (hb.mono Kx3_12.out.size)
        have Nx3_13 : Hid (x3_13.heap[x3_1.heap.size]? = some (.cells #[.int .i64 0, .slice none 0 0, .slice none 0 0, .bool false, .slice none 0 0, .string ⟨#[]⟩, .string ⟨#[]⟩] 37 (0, 0))) := (hb.block _ (Array.getElem?_eq_some_iff.1 Nx3_12.out).1).trans Nx3_12.out
        have U0x3_13 : Hid (RingAt x3_13 u0 (ks0, ns0)) := U0x3_12.out.below hb
        have U2x3_13 : Hid (BookAt x3_13 u2 (xs2, es2)) := U2x3_12.out.below hb
        clear hb
        refine hK.out _ _ ?_ (fun hHeld => ?_)
        · exact HC9.out _ Kx3_13.out
        clear hK K
        try simp only [Act.put, List.setIfInBounds_toArray, List.set_cons_zero, List.set_cons_succ]
        refine wpAnyH_ready (rs := [7]) (by kernel_rfl) (by simp) ?_
        refine AllReadyH.cons rfl (fun K hK => ?_) AllReadyH.nil
        go_simp
        refine (HSP.out _ _ _ _ U0x3_13.out U2x3_13.out U3x3_13.out (TB0_0.out.below (HB3.out.trans (Kx3_13.out.mono HB3.out.size))) (TB1_0.out.below (HB3.out.trans (Kx3_13.out.mono HB3.out.size))) (TB2_0.out.below (HB3.out.trans (Kx3_13.out.mono HB3.out.size)))).mono ?_
        rintro e x3_14 ⟨p0b0, p0a1, p0n1, p0c1, p0a2, p0n2, p0c2, p0b3, p0a4, p0n4, p0c4, p0b5, p0b6, rfl, hg, hb⟩
        have Gx3_14 : Hid (RelOwn x3_13.heap.size x3_14.heap.size x3_14 (.agg #[.int .i64 p0b0, .slice p0a1 p0n1 p0c1, .slice p0a2 p0n2 p0c2, .bool p0b3, .slice p0a4 p0n4 p0c4, .string p0b5, .string p0b6]) L0) := hg
        clear hg
        have Zx3_14 : Hid (x3_13.heap.size ≤ x3_14.heap.size) := hb.size
        have Kx3_14 : Hid (Below w3.heap.size w3 x3_14) := Kx3_13.out.trans (hb.mono Kx3_13.out.size)
        have Nx3_14 : Hid (x3_14.heap[x3_1.heap.size]? = some (.cells #[.int .i64 0, .slice none 0 0, .slice none 0 0, .bool false, .slice none 0 0, .string ⟨#[]⟩, .string ⟨#[]⟩] 37 (0, 0))) := (hb.block _ (Array.getElem?_eq_some_iff.1 Nx3_13.out).1).trans Nx3_13.out
        have U0x3_14 : Hid (RingAt x3_14 u0 (ks0, ns0)) := U0x3_13.out.below hb
        have U2x3_14 : Hid (BookAt x3_14 u2 (xs2, es2)) := U2x3_13.out.below hb
        have U3x3_14 : Hid (BookAt x3_14 u3 (xs3, es3)) := U3x3_13.out.below hb
        clear hb
        refine hK.out _ _ ?_ (fun hHeld => ?_)
        · exact HC9.out _ Kx3_14.out
        clear hK K
        try simp only [Act.put, List.setIfInBounds_toArray, List.set_cons_zero, List.set_cons_succ]
        refine tk 8 37 (.tuple #[.agg #[.int .i64 p0b0, .slice p0a1 p0n1 p0c1, .slice p0a2 p0n2 p0c2, .bool p0b3, .slice p0a4 p0n4 p0c4, .string p0b5, .string p0b6], .bool L1]) ?_
        simp only [Act.put, List.setIfInBounds_toArray, List.set_cons_zero, List.set_cons_succ]
        refine tk 9 46 (.agg #[.int .i64 p0b0, .slice p0a1 p0n1 p0c1, .slice p0a2 p0n2 p0c2, .bool p0b3, .slice p0a4 p0n4 p0c4, .string p0b5, .string p0b6]) ?_
        simp only [Act.put, List.setIfInBounds_toArray, List.set_cons_zero, List.set_cons_succ]
        refine tk 10 47 (.bool L1) ?_
        simp only [Act.put, List.setIfInBounds_toArray, List.set_cons_zero, List.set_cons_succ]
        refine wpAnyH_ready (rs := [12]) (by kernel_rfl) (by simp) ?_
        refine AllReadyH.cons rfl (fun K hK => ?_) AllReadyH.nil
        refine step_store_row rfl 37 (.tmp 10) (.tmp 46) rfl (x3_1.heap.size) #[.int .i64 p0b0, .slice p0a1 p0n1 p0c1, .slice p0a2 p0n2 p0c2, .bool p0b3, .slice p0a4 p0n4 p0c4, .string p0b5, .string p0b6] rfl rfl 37 _ Nx3_14.out HS9.out rfl (by simp [Value.oneCell']) rfl ?_
        obtain ⟨V, hV⟩ : ∃ X, x3_14.setRow (x3_1.heap.size) #[.int .i64 p0b0, .slice p0a1 p0n1 p0c1, .slice p0a2 p0n2 p0c2, .bool p0b3, .slice p0a4 p0n4 p0c4, .string p0b5, .string p0b6] = X := ⟨_, rfl⟩
        have KV : Hid (Below w3.heap.size w3 V) := by show Below _ _ _; rw [← hV]; exact below_setRow Kx3_14.out HQ.out _
        have NV : Hid (V.heap[x3_1.heap.size]? = some (.cells #[.int .i64 p0b0, .slice p0a1 p0n1 p0c1, .slice p0a2 p0n2 p0c2, .bool p0b3, .slice p0a4 p0n4 p0c4, .string p0b5, .string p0b6] 37 (0, 0))) := by show _ = _; rw [← hV]; exact setRow_heap _ _ _ _ _ _ Nx3_14.out
        have zx3_0 := Zx3_0.out
        have zx3_1 := Zx3_1.out
        have zx3_11 := Zx3_11.out
        have zx3_12 := Zx3_12.out
        have zx3_13 := Zx3_13.out
        have zx3_14 := Zx3_14.out
        have hsV : V.heap.size = x3_14.heap.size := by rw [← hV]; simp
        have GV : Hid (RelOwn x3_13.heap.size x3_14.heap.size V (.agg #[.int .i64 p0b0, .slice p0a1 p0n1 p0c1, .slice p0a2 p0n2 p0c2, .bool p0b3, .slice p0a4 p0n4 p0c4, .string p0b5, .string p0b6]) L0) := by
          show RelOwn _ _ _ _ _
          rw [← hV]
          exact relOwn_setRow486 Gx3_14.out (q := x3_1.heap.size) (by omega) _
        rw [hV]
        clear hV
        refine hK.out _ _ ?_ (fun hHeld => ?_)
        · exact HC9.out _ KV.out
        clear hK K
        try simp only [Act.put, List.setIfInBounds_toArray, List.set_cons_zero, List.set_cons_succ]
        refine tk 13 11 (.bool L1) ?_
        simp only [Act.put, List.setIfInBounds_toArray, List.set_cons_zero, List.set_cons_succ]
        refine wpAnyH_done (by kernel_rfl) ?_ _
        go_wp2
        go_meet
        case rel =>
          exact ⟨_, _, _, _, _, _, _, _, _, _, _, _, _, _, _, _, rfl, rfl, NV.out, GV.out, by omega, by omega, by omega, by omega, KV.out, HQ.out⟩
    · skip
      go_simp
      have NA : Hid ((x3_0.alloc (.cells #[.int .i64 0, .slice none 0 0, .slice none 0 0, .bool false, .slice none 0 0, .string ⟨#[]⟩, .string ⟨#[]⟩] 37)).heap[x3_0.heap.size]? = some (.cells #[.int .i64 0, .slice none 0 0, .slice none 0 0, .bool false, .slice none 0 0, .string ⟨#[]⟩, .string ⟨#[]⟩] 37 (0, 0))) := heap_alloc_last _ _
      obtain ⟨x3_15, hx⟩ : ∃ X, x3_0.alloc (.cells #[.int .i64 0, .slice none 0 0, .slice none 0 0, .bool false, .slice none 0 0, .string ⟨#[]⟩, .string ⟨#[]⟩] 37) = X := ⟨_, rfl⟩
      have hb : Below x3_0.heap.size x3_0 x3_15 := by rw [← hx]; exact (Below.refl _ _).alloc (Nat.le_refl _) _
      have Zx3_15 : Hid (x3_0.heap.size < x3_15.heap.size) := by show _ < _; rw [← hx]; simp
      have Nx3_15 : Hid (x3_15.heap[x3_0.heap.size]? = some (.cells #[.int .i64 0, .slice none 0 0, .slice none 0 0, .bool false, .slice none 0 0, .string ⟨#[]⟩, .string ⟨#[]⟩] 37 (0, 0))) := by show _ = _; rw [← hx]; exact NA.out
      have HQ : Hid (w3.heap.size ≤ x3_0.heap.size) := Kx3_0.out.size
      rw [hx]
      clear hx NA
      have Kx3_15 : Hid (Below w3.heap.size w3 x3_15) := Kx3_0.out.trans (hb.mono Kx3_0.out.size)
      clear hb
      refine hK.out _ _ ?_ (fun hHeld => ?_)
      · exact HC9.out _ Kx3_15.out
      clear hK K
      try simp only [Act.put, List.setIfInBounds_toArray, List.set_cons_zero, List.set_cons_succ]
      refine wpAnyH_ready (rs := [1]) (by kernel_rfl) (by simp) ?_
      refine AllReadyH.cons rfl (fun K hK => ?_) AllReadyH.nil
      go_simp
      refine (toRing_u _ _ (ks0, ns0) (HA0.out.below (HB3.out.trans (Kx3_15.out.mono HB3.out.size))) HN0.out).mono ?_
      rintro e x3_16 ⟨u0, rfl, ho, hb⟩
      have U0x3_16 : Hid (RingAt x3_16 u0 (ks0, ns0)) := ho.at
      clear ho
      have Zx3_16 : Hid (x3_15.heap.size ≤ x3_16.heap.size) := hb.size
      have Kx3_16 : Hid (Below w3.heap.size w3 x3_16) := Kx3_15.out.trans (hb.mono Kx3_15.out.size)
      have Nx3_16 : Hid (x3_16.heap[x3_0.heap.size]? = some (.cells #[.int .i64 0, .slice none 0 0, .slice none 0 0, .bool false, .slice none 0 0, .string ⟨#[]⟩, .string ⟨#[]⟩] 37 (0, 0))) := (hb.block _ (Array.getElem?_eq_some_iff.1 Nx3_15.out).1).trans Nx3_15.out
      clear hb
      refine hK.out _ _ ?_ (fun hHeld => ?_)
      · exact HC9.out _ Kx3_16.out
      clear hK K
      try simp only [Act.put, List.setIfInBounds_toArray, List.set_cons_zero, List.set_cons_succ]
      refine wpAnyH_ready (rs := [4]) (by kernel_rfl) (by simp) ?_
      refine AllReadyH.cons rfl (fun K hK => ?_) AllReadyH.nil
      go_simp
      refine (toBook_u _ _ (xs2, es2) (HA2.out.below (HB3.out.trans (Kx3_16.out.mono HB3.out.size))) HN2.out).mono ?_
      rintro e x3_17 ⟨u2, rfl, ho, hb⟩
      have U2x3_17 : Hid (BookAt x3_17 u2 (xs2, es2)) := ho.at
      clear ho
      have Zx3_17 : Hid (x3_16.heap.size ≤ x3_17.heap.size) := hb.size
      have Kx3_17 : Hid (Below w3.heap.size w3 x3_17) := Kx3_16.out.trans (hb.mono Kx3_16.out.size)
      have Nx3_17 : Hid (x3_17.heap[x3_0.heap.size]? = some (.cells #[.int .i64 0, .slice none 0 0, .slice none 0 0, .bool false, .slice none 0 0, .string ⟨#[]⟩, .string ⟨#[]⟩] 37 (0, 0))) := (hb.block _ (Array.getElem?_eq_some_iff.1 Nx3_16.out).1).trans Nx3_16.out
      have U0x3_17 : Hid (RingAt x3_17 u0 (ks0, ns0)) := U0x3_16.out.below hb
      clear hb
      refine hK.out _ _ ?_ (fun hHeld => ?_)
      · exact HC9.out _ Kx3_17.out
      clear hK K
      try simp only [Act.put, List.setIfInBounds_toArray, List.set_cons_zero, List.set_cons_succ]
      refine wpAnyH_ready (rs := [6]) (by kernel_rfl) (by simp) ?_
      refine AllReadyH.cons rfl (fun K hK => ?_) AllReadyH.nil
      go_simp
      refine (toBook_u _ _ (xs3, es3) (HA3.out.below (HB3.out.trans (Kx3_17.out.mono HB3.out.size))) HN3.out).mono ?_
      rintro e x3_18 ⟨u3, rfl, ho, hb⟩
      have U3x3_18 : Hid (BookAt x3_18 u3 (xs3, es3)) := ho.at
      clear ho
      have Zx3_18 : Hid (x3_17.heap.size ≤ x3_18.heap.size) := hb.size
      have Kx3_18 : Hid (Below w3.heap.size w3 x3_18) := Kx3_17.out.trans (hb.mono Kx3_17.out.size)
      have Nx3_18 : Hid (x3_18.heap[x3_0.heap.size]? = some (.cells #[.int .i64 0, .slice none 0 0, .slice none 0 0, .bool false, .slice none 0 0, .string ⟨#[]⟩, .string ⟨#[]⟩] 37 (0, 0))) := (hb.block _ (Array.getElem?_eq_some_iff.1 Nx3_17.out).1).trans Nx3_17.out
      have U0x3_18 : Hid (RingAt x3_18 u0 (ks0, ns0)) := U0x3_17.out.below hb
      have U2x3_18 : Hid (BookAt x3_18 u2 (xs2, es2)) := U2x3_17.out.below hb
      clear hb
      refine hK.out _ _ ?_ (fun hHeld => ?_)
      · exact HC9.out _ Kx3_18.out
      clear hK K
      try simp only [Act.put, List.setIfInBounds_toArray, List.set_cons_zero, List.set_cons_succ]
      refine wpAnyH_ready (rs := [7]) (by kernel_rfl) (by simp) ?_
      refine AllReadyH.cons rfl (fun K hK => ?_) AllReadyH.nil
      go_simp
      refine (HSP.out _ _ _ _ U0x3_18.out U2x3_18.out U3x3_18.out (TB0_0.out.below (HB3.out.trans (Kx3_18.out.mono HB3.out.size))) (TB1_0.out.below (HB3.out.trans (Kx3_18.out.mono HB3.out.size))) (TB2_0.out.below (HB3.out.trans (Kx3_18.out.mono HB3.out.size)))).mono ?_
      rintro e x3_19 ⟨p0b0, p0a1, p0n1, p0c1, p0a2, p0n2, p0c2, p0b3, p0a4, p0n4, p0c4, p0b5, p0b6, rfl, hg, hb⟩
      have Gx3_19 : Hid (RelOwn x3_18.heap.size x3_19.heap.size x3_19 (.agg #[.int .i64 p0b0, .slice p0a1 p0n1 p0c1, .slice p0a2 p0n2 p0c2, .bool p0b3, .slice p0a4 p0n4 p0c4, .string p0b5, .string p0b6]) L0) := hg
      clear hg
      have Zx3_19 : Hid (x3_18.heap.size ≤ x3_19.heap.size) := hb.size
      have Kx3_19 : Hid (Below w3.heap.size w3 x3_19) := Kx3_18.out.trans (hb.mono Kx3_18.out.size)
      have Nx3_19 : Hid (x3_19.heap[x3_0.heap.size]? = some (.cells #[.int .i64 0, .slice none 0 0, .slice none 0 0, .bool false, .slice none 0 0, .string ⟨#[]⟩, .string ⟨#[]⟩] 37 (0, 0))) := (hb.block _ (Array.getElem?_eq_some_iff.1 Nx3_18.out).1).trans Nx3_18.out
      have U0x3_19 : Hid (RingAt x3_19 u0 (ks0, ns0)) := U0x3_18.out.below hb
      have U2x3_19 : Hid (BookAt x3_19 u2 (xs2, es2)) := U2x3_18.out.below hb
      have U3x3_19 : Hid (BookAt x3_19 u3 (xs3, es3)) := U3x3_18.out.below hb
      clear hb
      refine hK.out _ _ ?_ (fun hHeld => ?_)
      · exact HC9.out _ Kx3_19.out
      clear hK K
      try simp only [Act.put, List.setIfInBounds_toArray, List.set_cons_zero, List.set_cons_succ]
      refine tk 8 37 (.tuple #[.agg #[.int .i64 p0b0, .slice p0a1 p0n1 p0c1, .slice p0a2 p0n2 p0c2, .bool p0b3, .slice p0a4 p0n4 p0c4, .string p0b5, .string p0b6], .bool L1]) ?_
      simp only [Act.put, List.setIfInBounds_toArray, List.set_cons_zero, List.set_cons_succ]
      refine tk 9 46 (.agg #[.int .i64 p0b0, .slice p0a1 p0n1 p0c1, .slice p0a2 p0n2 p0c2, .bool p0b3, .slice p0a4 p0n4 p0c4, .string p0b5, .string p0b6]) ?_
      simp only [Act.put, List.setIfInBounds_toArray, List.set_cons_zero, List.set_cons_succ]
      refine tk 10 47 (.bool L1) ?_
      simp only [Act.put, List.setIfInBounds_toArray, List.set_cons_zero, List.set_cons_succ]
      refine wpAnyH_ready (rs := [12]) (by kernel_rfl) (by simp) ?_
      refine AllReadyH.cons rfl (fun K hK => ?_) AllReadyH.nil
      refine step_store_row rfl 37 (.tmp 10) (.tmp 46) rfl (x3_0.heap.size) #[.int .i64 p0b0, .slice p0a1 p0n1 p0c1, .slice p0a2 p0n2 p0c2, .bool p0b3, .slice p0a4 p0n4 p0c4, .string p0b5, .string p0b6] rfl rfl 37 _ Nx3_19.out HS9.out rfl (by simp [Value.oneCell']) rfl ?_
      obtain ⟨V, hV⟩ : ∃ X, x3_19.setRow (x3_0.heap.size) #[.int .i64 p0b0, .slice p0a1 p0n1 p0c1, .slice p0a2 p0n2 p0c2, .bool p0b3, .slice p0a4 p0n4 p0c4, .string p0b5, .string p0b6] = X := ⟨_, rfl⟩
      have KV : Hid (Below w3.heap.size w3 V) := by show Below _ _ _; rw [← hV]; exact below_setRow Kx3_19.out HQ.out _
      have NV : Hid (V.heap[x3_0.heap.size]? = some (.cells #[.int .i64 p0b0, .slice p0a1 p0n1 p0c1, .slice p0a2 p0n2 p0c2, .bool p0b3, .slice p0a4 p0n4 p0c4, .string p0b5, .string p0b6] 37 (0, 0))) := by show _ = _; rw [← hV]; exact setRow_heap _ _ _ _ _ _ Nx3_19.out
      have zx3_0 := Zx3_0.out
      have zx3_15 := Zx3_15.out
      have zx3_16 := Zx3_16.out
      have zx3_17 := Zx3_17.out
      have zx3_18 := Zx3_18.out
      have zx3_19 := Zx3_19.out
      have hsV : V.heap.size = x3_19.heap.size := by rw [← hV]; simp
      have GV : Hid (RelOwn x3_18.heap.size x3_19.heap.size V (.agg #[.int .i64 p0b0, .slice p0a1 p0n1 p0c1, .slice p0a2 p0n2 p0c2, .bool p0b3, .slice p0a4 p0n4 p0c4, .string p0b5, .string p0b6]) L0) := by
        show RelOwn _ _ _ _ _
        rw [← hV]
        exact relOwn_setRow486 Gx3_19.out (q := x3_0.heap.size) (by omega) _
      rw [hV]
      clear hV
      refine hK.out _ _ ?_ (fun hHeld => ?_)
      · exact HC9.out _ KV.out
      clear hK K
      try simp only [Act.put, List.setIfInBounds_toArray, List.set_cons_zero, List.set_cons_succ]
      refine tk 13 11 (.bool L1) ?_
      simp only [Act.put, List.setIfInBounds_toArray, List.set_cons_zero, List.set_cons_succ]
      refine wpAnyH_done (by kernel_rfl) ?_ _
      go_wp2
      go_meet
      case rel =>
        exact ⟨_, _, _, _, _, _, _, _, _, _, _, _, _, _, _, _, rfl, rfl, NV.out, GV.out, by omega, by omega, by omega, by omega, KV.out, HQ.out⟩
  case rest =>
    obtain ⟨w4, hw4⟩ : ∃ x, x = wc := ⟨_, rfl⟩
    subst hw4
    obtain ⟨B4, lo4, hi4, p0b0, p0a1, p0n1, p0c1, p0a2, p0n2, p0c2, p0b3, p0a4, p0n4, p0c4, p0b5, p0b6, hp4, hv4_0, hr4, ha4, hl14, hl24, hl34, hl44, hh4, hl4⟩ := hcut
    subst hp4
    subst hv4_0
    have HB4 : Hid (Below w.heap.size w w4) := HB3.out.trans (hh4.mono HB3.out.size)
    have c4_0_0 := cl hh4 hz3_0 c3_0_0
    have c4_0_1 := cl hh4 hz3_0 c3_0_1
    have hz4_0 : (w.heap.size) < w4.heap.size := Nat.lt_of_lt_of_le hz3_0 hh4.size
    have c4_1_0 := cl hh4 hz3_1 c3_1_0
    have c4_1_1 := cl hh4 hz3_1 c3_1_1
    have hz4_1 : (w.heap.size + 1) < w4.heap.size := Nat.lt_of_lt_of_le hz3_1 hh4.size
    have c4_2_0 := cl hh4 hz3_2 c3_2_0
    have c4_2_1 := cl hh4 hz3_2 c3_2_1
    have hz4_2 : (w.heap.size + 1 + 1) < w4.heap.size := Nat.lt_of_lt_of_le hz3_2 hh4.size
    have c4_3_0 : w4.cell? ⟨B4, 0, none⟩ = some (.int .i64 p0b0) := by rw [cell_of_row _ _ 0 _ _ _ hr4]; rfl
    have c4_3_1 : w4.cell? ⟨B4, 1, none⟩ = some (.slice p0a1 p0n1 p0c1) := by rw [cell_of_row _ _ 1 _ _ _ hr4]; rfl
    have c4_3_2 : w4.cell? ⟨B4, 2, none⟩ = some (.slice p0a2 p0n2 p0c2) := by rw [cell_of_row _ _ 2 _ _ _ hr4]; rfl
    have c4_3_3 : w4.cell? ⟨B4, 3, none⟩ = some (.bool p0b3) := by rw [cell_of_row _ _ 3 _ _ _ hr4]; rfl
    have c4_3_4 : w4.cell? ⟨B4, 4, none⟩ = some (.slice p0a4 p0n4 p0c4) := by rw [cell_of_row _ _ 4 _ _ _ hr4]; rfl
    have c4_3_5 : w4.cell? ⟨B4, 5, none⟩ = some (.string p0b5) := by rw [cell_of_row _ _ 5 _ _ _ hr4]; rfl
    have c4_3_6 : w4.cell? ⟨B4, 6, none⟩ = some (.string p0b6) := by rw [cell_of_row _ _ 6 _ _ _ hr4]; rfl
    have hz4_3 : B4 < w4.heap.size := (Array.getElem?_eq_some_iff.1 hr4).1
    have HZ4 : Hid (w3.heap.size ≤ w4.heap.size ∧ w3.heap.size ≤ B4 ∧ B4 < w4.heap.size ∧ w3.heap.size ≤ lo4 ∧ lo4 ≤ hi4 ∧ hi4 ≤ w4.heap.size ∧ (B4 < lo4 ∨ hi4 ≤ B4)) := ⟨hh4.size, hl4, hz4_3, hl14, hl24, hl34, hl44⟩
    have HU : Hid (RelAt w4 (.agg #[.int .i64 p0b0, .slice p0a1 p0n1 p0c1, .slice p0a2 p0n2 p0c2, .bool p0b3, .slice p0a4 p0n4 p0c4, .string p0b5, .string p0b6]) L0) := ha4.at
    clear c3_0_0 c3_0_1 hz3_0 c3_1_0 c3_1_1 hz3_1 c3_2_0 c3_2_1 hz3_2 hh4 hr4 ha4 hl4 hl14 hl24 hl34 hl44
    go_wp2_with fail
    refine (toRing_u _ _ (ks0, ns0) (HA0.out.below HB4.out) HN0.out).mono ?_
    rintro e w5 ⟨y0, rfl, hu5, hb5⟩
    obtain ⟨y0a0, y0n0, y0c0, y0a1, y0n1, y0c1, rfl⟩ := RingAt.form2 hu5.at
    have hh5 : Below w4.heap.size w4 w5 := hb5
    have HB5 : Hid (Below w.heap.size w w5) := HB4.out.trans (hh5.mono HB4.out.size)
    have BC5 : Hid (Below w4.heap.size w4 w5) := hh5
    have c5_0_0 := cl hh5 hz4_0 c4_0_0
    have c5_0_1 := cl hh5 hz4_0 c4_0_1
    have hz5_0 : (w.heap.size) < w5.heap.size := Nat.lt_of_lt_of_le hz4_0 hh5.size
    have c5_1_0 := cl hh5 hz4_1 c4_1_0
    have c5_1_1 := cl hh5 hz4_1 c4_1_1
    have hz5_1 : (w.heap.size + 1) < w5.heap.size := Nat.lt_of_lt_of_le hz4_1 hh5.size
    have c5_2_0 := cl hh5 hz4_2 c4_2_0
    have c5_2_1 := cl hh5 hz4_2 c4_2_1
    have hz5_2 : (w.heap.size + 1 + 1) < w5.heap.size := Nat.lt_of_lt_of_le hz4_2 hh5.size
    have c5_3_0 := cl hh5 hz4_3 c4_3_0
    have c5_3_1 := cl hh5 hz4_3 c4_3_1
    have c5_3_2 := cl hh5 hz4_3 c4_3_2
    have c5_3_3 := cl hh5 hz4_3 c4_3_3
    have c5_3_4 := cl hh5 hz4_3 c4_3_4
    have c5_3_5 := cl hh5 hz4_3 c4_3_5
    have c5_3_6 := cl hh5 hz4_3 c4_3_6
    have hz5_3 : B4 < w5.heap.size := Nat.lt_of_lt_of_le hz4_3 hh5.size
    have HZ5 : Hid (w4.heap.size ≤ w5.heap.size) := hh5.size
    clear c4_0_0 c4_0_1 hz4_0 c4_1_0 c4_1_1 hz4_1 c4_2_0 c4_2_1 hz4_2 c4_3_0 c4_3_1 c4_3_2 c4_3_3 c4_3_4 c4_3_5 c4_3_6 hz4_3 hb5 hh5
    have X0_5 : Hid (RingOwn (w4.heap.size) w5.heap.size w5 (.agg #[.slice y0a0 y0n0 y0c0, .slice y0a1 y0n1 y0c1]) (ks0, ns0)) := hu5
    clear hu5
    go_wp2_with fail
    have HX5 : Hid (Below w5.heap.size w5 (w5.alloc (.cells #[.slice y0a0 y0n0 y0c0, .slice y0a1 y0n1 y0c1] 40))) := ((Below.refl _ _).alloc (Nat.le_refl _) _)
    refine (toBook_u _ _ (xs2, es2) (HA2.out.below (HB5.out.trans (Below.mono HX5.out HB5.out.size))) HN2.out).mono ?_
    rintro e w6 ⟨y2, rfl, hu6, hb6⟩
    obtain ⟨y2a0, y2n0, y2c0, y2a1, y2n1, y2c1, rfl⟩ := BookAt.form2 hu6.at
    simp only [World.size_alloc] at hu6
    have hh6 : Below w5.heap.size w5 w6 := Below.trans HX5.out (Below.mono hb6 (Below.size HX5.out))
    have HB6 : Hid (Below w.heap.size w w6) := HB5.out.trans (hh6.mono HB5.out.size)
    have BC6 : Hid (Below w4.heap.size w4 w6) := BC5.out.trans (hh6.mono BC5.out.size)
    have c6_0_0 := cl hh6 hz5_0 c5_0_0
    have c6_0_1 := cl hh6 hz5_0 c5_0_1
    have hz6_0 : (w.heap.size) < w6.heap.size := Nat.lt_of_lt_of_le hz5_0 hh6.size
    have c6_1_0 := cl hh6 hz5_1 c5_1_0
    have c6_1_1 := cl hh6 hz5_1 c5_1_1
    have hz6_1 : (w.heap.size + 1) < w6.heap.size := Nat.lt_of_lt_of_le hz5_1 hh6.size
    have c6_2_0 := cl hh6 hz5_2 c5_2_0
    have c6_2_1 := cl hh6 hz5_2 c5_2_1
    have hz6_2 : (w.heap.size + 1 + 1) < w6.heap.size := Nat.lt_of_lt_of_le hz5_2 hh6.size
    have c6_3_0 := cl hh6 hz5_3 c5_3_0
    have c6_3_1 := cl hh6 hz5_3 c5_3_1
    have c6_3_2 := cl hh6 hz5_3 c5_3_2
    have c6_3_3 := cl hh6 hz5_3 c5_3_3
    have c6_3_4 := cl hh6 hz5_3 c5_3_4
    have c6_3_5 := cl hh6 hz5_3 c5_3_5
    have c6_3_6 := cl hh6 hz5_3 c5_3_6
    have hz6_3 : B4 < w6.heap.size := Nat.lt_of_lt_of_le hz5_3 hh6.size
    have X0_6 : Hid (RingOwn (w4.heap.size) w5.heap.size w6 (.agg #[.slice y0a0 y0n0 y0c0, .slice y0a1 y0n1 y0c1]) (ks0, ns0)) := X0_5.out.below hh6
    have c6_4_0 : w6.cell? ⟨(w5.heap.size), 0, none⟩ = some (.slice y0a0 y0n0 y0c0) := (hb6.cell (p := ⟨(w5.heap.size), 0, none⟩) (by simp <;> omega)).trans (by simp [go_sem])
    have c6_4_1 : w6.cell? ⟨(w5.heap.size), 1, none⟩ = some (.slice y0a1 y0n1 y0c1) := (hb6.cell (p := ⟨(w5.heap.size), 1, none⟩) (by simp <;> omega)).trans (by simp [go_sem])
    have hz6_4 : (w5.heap.size) < w6.heap.size := by have := hb6.size; simp at this; omega
    have HZ6 : Hid (w5.heap.size + 1 ≤ w6.heap.size) := by have := hb6.size; simp at this; show _ ≤ _; omega
    clear c5_0_0 c5_0_1 hz5_0 c5_1_0 c5_1_1 hz5_1 c5_2_0 c5_2_1 hz5_2 c5_3_0 c5_3_1 c5_3_2 c5_3_3 c5_3_4 c5_3_5 c5_3_6 hz5_3 X0_5 hb6 hh6
    have X2_6 : Hid (BookOwn (w5.heap.size + 1) w6.heap.size w6 (.agg #[.slice y2a0 y2n0 y2c0, .slice y2a1 y2n1 y2c1]) (xs2, es2)) := hu6
    clear hu6
    go_wp2_with fail
    have HX6 : Hid (Below w6.heap.size w6 (w6.alloc (.cells #[.slice y2a0 y2n0 y2c0, .slice y2a1 y2n1 y2c1] 43))) := ((Below.refl _ _).alloc (Nat.le_refl _) _)
    refine (toBook_u _ _ (xs3, es3) (HA3.out.below (HB6.out.trans (Below.mono HX6.out HB6.out.size))) HN3.out).mono ?_
    rintro e w7 ⟨y3, rfl, hu7, hb7⟩
    obtain ⟨y3a0, y3n0, y3c0, y3a1, y3n1, y3c1, rfl⟩ := BookAt.form2 hu7.at
    simp only [World.size_alloc] at hu7
    have hh7 : Below w6.heap.size w6 w7 := Below.trans HX6.out (Below.mono hb7 (Below.size HX6.out))
    have HB7 : Hid (Below w.heap.size w w7) := HB6.out.trans (hh7.mono HB6.out.size)
    have BC7 : Hid (Below w4.heap.size w4 w7) := BC6.out.trans (hh7.mono BC6.out.size)
    have c7_0_0 := cl hh7 hz6_0 c6_0_0
    have c7_0_1 := cl hh7 hz6_0 c6_0_1
    have hz7_0 : (w.heap.size) < w7.heap.size := Nat.lt_of_lt_of_le hz6_0 hh7.size
    have c7_1_0 := cl hh7 hz6_1 c6_1_0
    have c7_1_1 := cl hh7 hz6_1 c6_1_1
    have hz7_1 : (w.heap.size + 1) < w7.heap.size := Nat.lt_of_lt_of_le hz6_1 hh7.size
    have c7_2_0 := cl hh7 hz6_2 c6_2_0
    have c7_2_1 := cl hh7 hz6_2 c6_2_1
    have hz7_2 : (w.heap.size + 1 + 1) < w7.heap.size := Nat.lt_of_lt_of_le hz6_2 hh7.size
    have c7_3_0 := cl hh7 hz6_3 c6_3_0
    have c7_3_1 := cl hh7 hz6_3 c6_3_1
    have c7_3_2 := cl hh7 hz6_3 c6_3_2
    have c7_3_3 := cl hh7 hz6_3 c6_3_3
    have c7_3_4 := cl hh7 hz6_3 c6_3_4
    have c7_3_5 := cl hh7 hz6_3 c6_3_5
    have c7_3_6 := cl hh7 hz6_3 c6_3_6
    have hz7_3 : B4 < w7.heap.size := Nat.lt_of_lt_of_le hz6_3 hh7.size
    have c7_4_0 := cl hh7 hz6_4 c6_4_0
    have c7_4_1 := cl hh7 hz6_4 c6_4_1
    have hz7_4 : (w5.heap.size) < w7.heap.size := Nat.lt_of_lt_of_le hz6_4 hh7.size
    have X0_7 : Hid (RingOwn (w4.heap.size) w5.heap.size w7 (.agg #[.slice y0a0 y0n0 y0c0, .slice y0a1 y0n1 y0c1]) (ks0, ns0)) := X0_6.out.below hh7
    have X2_7 : Hid (BookOwn (w5.heap.size + 1) w6.heap.size w7 (.agg #[.slice y2a0 y2n0 y2c0, .slice y2a1 y2n1 y2c1]) (xs2, es2)) := X2_6.out.below hh7
    have c7_5_0 : w7.cell? ⟨(w6.heap.size), 0, none⟩ = some (.slice y2a0 y2n0 y2c0) := (hb7.cell (p := ⟨(w6.heap.size), 0, none⟩) (by simp <;> omega)).trans (by simp [go_sem])
    have c7_5_1 : w7.cell? ⟨(w6.heap.size), 1, none⟩ = some (.slice y2a1 y2n1 y2c1) := (hb7.cell (p := ⟨(w6.heap.size), 1, none⟩) (by simp <;> omega)).trans (by simp [go_sem])
    have hz7_5 : (w6.heap.size) < w7.heap.size := by have := hb7.size; simp at this; omega
    have HZ7 : Hid (w6.heap.size + 1 ≤ w7.heap.size) := by have := hb7.size; simp at this; show _ ≤ _; omega
    clear c6_0_0 c6_0_1 hz6_0 c6_1_0 c6_1_1 hz6_1 c6_2_0 c6_2_1 hz6_2 c6_3_0 c6_3_1 c6_3_2 c6_3_3 c6_3_4 c6_3_5 c6_3_6 hz6_3 c6_4_0 c6_4_1 hz6_4 X0_6 X2_6 hb7 hh7
    have X3_7 : Hid (BookOwn (w6.heap.size + 1) w7.heap.size w7 (.agg #[.slice y3a0 y3n0 y3c0, .slice y3a1 y3n1 y3c1]) (xs3, es3)) := hu7
    clear hu7
    go_wp2_with fail
    have HX7 : Hid (Below w7.heap.size w7 (w7.alloc (.cells #[.slice y3a0 y3n0 y3c0, .slice y3a1 y3n1 y3c1] 43))) := ((Below.refl _ _).alloc (Nat.le_refl _) _)
    refine (HIM.out _ _ _ _ ((X0_7.out.below HX7.out)).at ((X2_7.out.below HX7.out)).at ((X3_7.out.below HX7.out)).at (TB0_0.out.below (HB7.out.trans (Below.mono HX7.out HB7.out.size))) (TB1_0.out.below (HB7.out.trans (Below.mono HX7.out HB7.out.size))) (TB2_0.out.below (HB7.out.trans (Below.mono HX7.out HB7.out.size)))).mono ?_
    rintro e w8 ⟨g0b0, g0a1, g0n1, g0c1, g0a2, g0n2, g0c2, g0b3, g0a4, g0n4, g0c4, g0b5, g0b6, rfl, hu8, hb8⟩
    simp only [World.size_alloc] at hu8
    have hh8 : Below w7.heap.size w7 w8 := Below.trans HX7.out (Below.mono hb8 (Below.size HX7.out))
    have HB8 : Hid (Below w.heap.size w w8) := HB7.out.trans (hh8.mono HB7.out.size)
    have BC8 : Hid (Below w4.heap.size w4 w8) := BC7.out.trans (hh8.mono BC7.out.size)
    have c8_0_0 := cl hh8 hz7_0 c7_0_0
    have c8_0_1 := cl hh8 hz7_0 c7_0_1
    have hz8_0 : (w.heap.size) < w8.heap.size := Nat.lt_of_lt_of_le hz7_0 hh8.size
    have c8_1_0 := cl hh8 hz7_1 c7_1_0
    have c8_1_1 := cl hh8 hz7_1 c7_1_1
    have hz8_1 : (w.heap.size + 1) < w8.heap.size := Nat.lt_of_lt_of_le hz7_1 hh8.size
    have c8_2_0 := cl hh8 hz7_2 c7_2_0
    have c8_2_1 := cl hh8 hz7_2 c7_2_1
    have hz8_2 : (w.heap.size + 1 + 1) < w8.heap.size := Nat.lt_of_lt_of_le hz7_2 hh8.size
    have c8_3_0 := cl hh8 hz7_3 c7_3_0
    have c8_3_1 := cl hh8 hz7_3 c7_3_1
    have c8_3_2 := cl hh8 hz7_3 c7_3_2
    have c8_3_3 := cl hh8 hz7_3 c7_3_3
    have c8_3_4 := cl hh8 hz7_3 c7_3_4
    have c8_3_5 := cl hh8 hz7_3 c7_3_5
    have c8_3_6 := cl hh8 hz7_3 c7_3_6
    have hz8_3 : B4 < w8.heap.size := Nat.lt_of_lt_of_le hz7_3 hh8.size
    have c8_4_0 := cl hh8 hz7_4 c7_4_0
    have c8_4_1 := cl hh8 hz7_4 c7_4_1
    have hz8_4 : (w5.heap.size) < w8.heap.size := Nat.lt_of_lt_of_le hz7_4 hh8.size
    have c8_5_0 := cl hh8 hz7_5 c7_5_0
    have c8_5_1 := cl hh8 hz7_5 c7_5_1
    have hz8_5 : (w6.heap.size) < w8.heap.size := Nat.lt_of_lt_of_le hz7_5 hh8.size
    have X0_8 : Hid (RingOwn (w4.heap.size) w5.heap.size w8 (.agg #[.slice y0a0 y0n0 y0c0, .slice y0a1 y0n1 y0c1]) (ks0, ns0)) := X0_7.out.below hh8
    have X2_8 : Hid (BookOwn (w5.heap.size + 1) w6.heap.size w8 (.agg #[.slice y2a0 y2n0 y2c0, .slice y2a1 y2n1 y2c1]) (xs2, es2)) := X2_7.out.below hh8
    have X3_8 : Hid (BookOwn (w6.heap.size + 1) w7.heap.size w8 (.agg #[.slice y3a0 y3n0 y3c0, .slice y3a1 y3n1 y3c1]) (xs3, es3)) := X3_7.out.below hh8
    have c8_6_0 : w8.cell? ⟨(w7.heap.size), 0, none⟩ = some (.slice y3a0 y3n0 y3c0) := (hb8.cell (p := ⟨(w7.heap.size), 0, none⟩) (by simp <;> omega)).trans (by simp [go_sem])
    have c8_6_1 : w8.cell? ⟨(w7.heap.size), 1, none⟩ = some (.slice y3a1 y3n1 y3c1) := (hb8.cell (p := ⟨(w7.heap.size), 1, none⟩) (by simp <;> omega)).trans (by simp [go_sem])
    have hz8_6 : (w7.heap.size) < w8.heap.size := by have := hb8.size; simp at this; omega
    have HZ8 : Hid (w7.heap.size + 1 ≤ w8.heap.size) := by have := hb8.size; simp at this; show _ ≤ _; omega
    clear c7_0_0 c7_0_1 hz7_0 c7_1_0 c7_1_1 hz7_1 c7_2_0 c7_2_1 hz7_2 c7_3_0 c7_3_1 c7_3_2 c7_3_3 c7_3_4 c7_3_5 c7_3_6 hz7_3 c7_4_0 c7_4_1 hz7_4 c7_5_0 c7_5_1 hz7_5 X0_7 X2_7 X3_7 hb8 hh8
    have G_8 : Hid (RelOwn (w7.heap.size + 1) w8.heap.size w8 (.agg #[.int .i64 g0b0, .slice g0a1 g0n1 g0c1, .slice g0a2 g0n2 g0c2, .bool g0b3, .slice g0a4 g0n4 g0c4, .string g0b5, .string g0b6]) L0) := hu8
    clear hu8
    go_wp2_with fail
    have HX8 : Hid (Below w8.heap.size w8 (w8.alloc (.cells #[.int .i64 g0b0, .slice g0a1 g0n1 g0c1, .slice g0a2 g0n2 g0c2, .bool g0b3, .slice g0a4 g0n4 g0c4, .string g0b5, .string g0b6] 37))) := ((Below.refl _ _).alloc (Nat.le_refl _) _)
    refine (eqRel_u _ _ _ L0 ((G_8.out.below HX8.out)).at (HU.out.below (BC8.out.trans (Below.mono HX8.out BC8.out.size)))).mono ?_
    rintro e w9 ⟨rfl, hb9⟩
    have hh9 : Below w8.heap.size w8 w9 := Below.trans HX8.out (Below.mono hb9 (Below.size HX8.out))
    have HB9 : Hid (Below w.heap.size w w9) := HB8.out.trans (hh9.mono HB8.out.size)
    have BC9 : Hid (Below w4.heap.size w4 w9) := BC8.out.trans (hh9.mono BC8.out.size)
    have c9_0_0 := cl hh9 hz8_0 c8_0_0
    have c9_0_1 := cl hh9 hz8_0 c8_0_1
    have hz9_0 : (w.heap.size) < w9.heap.size := Nat.lt_of_lt_of_le hz8_0 hh9.size
    have c9_1_0 := cl hh9 hz8_1 c8_1_0
    have c9_1_1 := cl hh9 hz8_1 c8_1_1
    have hz9_1 : (w.heap.size + 1) < w9.heap.size := Nat.lt_of_lt_of_le hz8_1 hh9.size
    have c9_2_0 := cl hh9 hz8_2 c8_2_0
    have c9_2_1 := cl hh9 hz8_2 c8_2_1
    have hz9_2 : (w.heap.size + 1 + 1) < w9.heap.size := Nat.lt_of_lt_of_le hz8_2 hh9.size
    have c9_3_0 := cl hh9 hz8_3 c8_3_0
    have c9_3_1 := cl hh9 hz8_3 c8_3_1
    have c9_3_2 := cl hh9 hz8_3 c8_3_2
    have c9_3_3 := cl hh9 hz8_3 c8_3_3
    have c9_3_4 := cl hh9 hz8_3 c8_3_4
    have c9_3_5 := cl hh9 hz8_3 c8_3_5
    have c9_3_6 := cl hh9 hz8_3 c8_3_6
    have hz9_3 : B4 < w9.heap.size := Nat.lt_of_lt_of_le hz8_3 hh9.size
    have c9_4_0 := cl hh9 hz8_4 c8_4_0
    have c9_4_1 := cl hh9 hz8_4 c8_4_1
    have hz9_4 : (w5.heap.size) < w9.heap.size := Nat.lt_of_lt_of_le hz8_4 hh9.size
    have c9_5_0 := cl hh9 hz8_5 c8_5_0
    have c9_5_1 := cl hh9 hz8_5 c8_5_1
    have hz9_5 : (w6.heap.size) < w9.heap.size := Nat.lt_of_lt_of_le hz8_5 hh9.size
    have c9_6_0 := cl hh9 hz8_6 c8_6_0
    have c9_6_1 := cl hh9 hz8_6 c8_6_1
    have hz9_6 : (w7.heap.size) < w9.heap.size := Nat.lt_of_lt_of_le hz8_6 hh9.size
    have X0_9 : Hid (RingOwn (w4.heap.size) w5.heap.size w9 (.agg #[.slice y0a0 y0n0 y0c0, .slice y0a1 y0n1 y0c1]) (ks0, ns0)) := X0_8.out.below hh9
    have X2_9 : Hid (BookOwn (w5.heap.size + 1) w6.heap.size w9 (.agg #[.slice y2a0 y2n0 y2c0, .slice y2a1 y2n1 y2c1]) (xs2, es2)) := X2_8.out.below hh9
    have X3_9 : Hid (BookOwn (w6.heap.size + 1) w7.heap.size w9 (.agg #[.slice y3a0 y3n0 y3c0, .slice y3a1 y3n1 y3c1]) (xs3, es3)) := X3_8.out.below hh9
    have G_9 : Hid (RelOwn (w7.heap.size + 1) w8.heap.size w9 (.agg #[.int .i64 g0b0, .slice g0a1 g0n1 g0c1, .slice g0a2 g0n2 g0c2, .bool g0b3, .slice g0a4 g0n4 g0c4, .string g0b5, .string g0b6]) L0) := G_8.out.below hh9
    have c9_7_0 : w9.cell? ⟨(w8.heap.size), 0, none⟩ = some (.int .i64 g0b0) := (hb9.cell (p := ⟨(w8.heap.size), 0, none⟩) (by simp <;> omega)).trans (by simp [go_sem])
    have c9_7_1 : w9.cell? ⟨(w8.heap.size), 1, none⟩ = some (.slice g0a1 g0n1 g0c1) := (hb9.cell (p := ⟨(w8.heap.size), 1, none⟩) (by simp <;> omega)).trans (by simp [go_sem])
    have c9_7_2 : w9.cell? ⟨(w8.heap.size), 2, none⟩ = some (.slice g0a2 g0n2 g0c2) := (hb9.cell (p := ⟨(w8.heap.size), 2, none⟩) (by simp <;> omega)).trans (by simp [go_sem])
    have c9_7_3 : w9.cell? ⟨(w8.heap.size), 3, none⟩ = some (.bool g0b3) := (hb9.cell (p := ⟨(w8.heap.size), 3, none⟩) (by simp <;> omega)).trans (by simp [go_sem])
    have c9_7_4 : w9.cell? ⟨(w8.heap.size), 4, none⟩ = some (.slice g0a4 g0n4 g0c4) := (hb9.cell (p := ⟨(w8.heap.size), 4, none⟩) (by simp <;> omega)).trans (by simp [go_sem])
    have c9_7_5 : w9.cell? ⟨(w8.heap.size), 5, none⟩ = some (.string g0b5) := (hb9.cell (p := ⟨(w8.heap.size), 5, none⟩) (by simp <;> omega)).trans (by simp [go_sem])
    have c9_7_6 : w9.cell? ⟨(w8.heap.size), 6, none⟩ = some (.string g0b6) := (hb9.cell (p := ⟨(w8.heap.size), 6, none⟩) (by simp <;> omega)).trans (by simp [go_sem])
    have hz9_7 : (w8.heap.size) < w9.heap.size := by have := hb9.size; simp at this; omega
    have HZ9 : Hid (w8.heap.size + 1 ≤ w9.heap.size) := by have := hb9.size; simp at this; show _ ≤ _; omega
    clear c8_0_0 c8_0_1 hz8_0 c8_1_0 c8_1_1 hz8_1 c8_2_0 c8_2_1 hz8_2 c8_3_0 c8_3_1 c8_3_2 c8_3_3 c8_3_4 c8_3_5 c8_3_6 hz8_3 c8_4_0 c8_4_1 hz8_4 c8_5_0 c8_5_1 hz8_5 c8_6_0 c8_6_1 hz8_6 X0_8 X2_8 X3_8 G_8 hb9 hh9
    go_wp2_with fail
    go_region_held3 (fun w' => w'.cell? ⟨(w.heap.size), 0, none⟩ = some (va0) ∧ w'.cell? ⟨(w.heap.size), 1, none⟩ = some (vn0) ∧ w'.cell? ⟨(w.heap.size + 1), 0, none⟩ = some (va2) ∧ w'.cell? ⟨(w.heap.size + 1), 1, none⟩ = some (ve2) ∧ w'.cell? ⟨(w.heap.size + 1 + 1), 0, none⟩ = some (va3) ∧ w'.cell? ⟨(w.heap.size + 1 + 1), 1, none⟩ = some (ve3) ∧ w'.cell? ⟨B4, 0, none⟩ = some (.int .i64 p0b0) ∧ w'.cell? ⟨B4, 1, none⟩ = some (.slice p0a1 p0n1 p0c1) ∧ w'.cell? ⟨B4, 2, none⟩ = some (.slice p0a2 p0n2 p0c2) ∧ w'.cell? ⟨B4, 3, none⟩ = some (.bool p0b3) ∧ w'.cell? ⟨B4, 4, none⟩ = some (.slice p0a4 p0n4 p0c4) ∧ w'.cell? ⟨B4, 5, none⟩ = some (.string p0b5) ∧ w'.cell? ⟨B4, 6, none⟩ = some (.string p0b6) ∧ w'.cell? ⟨(w5.heap.size), 0, none⟩ = some (.slice y0a0 y0n0 y0c0) ∧ w'.cell? ⟨(w5.heap.size), 1, none⟩ = some (.slice y0a1 y0n1 y0c1) ∧ w'.cell? ⟨(w6.heap.size), 0, none⟩ = some (.slice y2a0 y2n0 y2c0) ∧ w'.cell? ⟨(w6.heap.size), 1, none⟩ = some (.slice y2a1 y2n1 y2c1) ∧ w'.cell? ⟨(w7.heap.size), 0, none⟩ = some (.slice y3a0 y3n0 y3c0) ∧ w'.cell? ⟨(w7.heap.size), 1, none⟩ = some (.slice y3a1 y3n1 y3c1) ∧ w'.cell? ⟨(w8.heap.size), 0, none⟩ = some (.int .i64 g0b0) ∧ w'.cell? ⟨(w8.heap.size), 1, none⟩ = some (.slice g0a1 g0n1 g0c1) ∧ w'.cell? ⟨(w8.heap.size), 2, none⟩ = some (.slice g0a2 g0n2 g0c2) ∧ w'.cell? ⟨(w8.heap.size), 3, none⟩ = some (.bool g0b3) ∧ w'.cell? ⟨(w8.heap.size), 4, none⟩ = some (.slice g0a4 g0n4 g0c4) ∧ w'.cell? ⟨(w8.heap.size), 5, none⟩ = some (.string g0b5) ∧ w'.cell? ⟨(w8.heap.size), 6, none⟩ = some (.string g0b6)) (go_keep)
      (first
        | (have qm := HB10; clear qm; go_at_call 12; refine (eqRing_u _ _ _ (ks0, ns0) (X0_10.out).at Ub0_10.out).mono ?_; rintro e w11 ⟨rfl, hb11⟩; have hh11 : Below w10.heap.size w10 w11 := hb11; have HB11 : Hid (Below w.heap.size w w11) := HB10.out.trans (hh11.mono HB10.out.size); have BC11 : Hid (Below w4.heap.size w4 w11) := BC10.out.trans (hh11.mono BC10.out.size); have c11_0_0 := cl hh11 hz10_0 c10_0_0; have c11_0_1 := cl hh11 hz10_0 c10_0_1; have hz11_0 : (w.heap.size) < w11.heap.size := Nat.lt_of_lt_of_le hz10_0 hh11.size; have c11_1_0 := cl hh11 hz10_1 c10_1_0; have c11_1_1 := cl hh11 hz10_1 c10_1_1; have hz11_1 : (w.heap.size + 1) < w11.heap.size := Nat.lt_of_lt_of_le hz10_1 hh11.size; have c11_2_0 := cl hh11 hz10_2 c10_2_0; have c11_2_1 := cl hh11 hz10_2 c10_2_1; have hz11_2 : (w.heap.size + 1 + 1) < w11.heap.size := Nat.lt_of_lt_of_le hz10_2 hh11.size; have c11_3_0 := cl hh11 hz10_3 c10_3_0; have c11_3_1 := cl hh11 hz10_3 c10_3_1; have c11_3_2 := cl hh11 hz10_3 c10_3_2; have c11_3_3 := cl hh11 hz10_3 c10_3_3; have c11_3_4 := cl hh11 hz10_3 c10_3_4; have c11_3_5 := cl hh11 hz10_3 c10_3_5; have c11_3_6 := cl hh11 hz10_3 c10_3_6; have hz11_3 : B4 < w11.heap.size := Nat.lt_of_lt_of_le hz10_3 hh11.size; have c11_4_0 := cl hh11 hz10_4 c10_4_0; have c11_4_1 := cl hh11 hz10_4 c10_4_1; have hz11_4 : (w5.heap.size) < w11.heap.size := Nat.lt_of_lt_of_le hz10_4 hh11.size; have c11_5_0 := cl hh11 hz10_5 c10_5_0; have c11_5_1 := cl hh11 hz10_5 c10_5_1; have hz11_5 : (w6.heap.size) < w11.heap.size := Nat.lt_of_lt_of_le hz10_5 hh11.size; have c11_6_0 := cl hh11 hz10_6 c10_6_0; have c11_6_1 := cl hh11 hz10_6 c10_6_1; have hz11_6 : (w7.heap.size) < w11.heap.size := Nat.lt_of_lt_of_le hz10_6 hh11.size; have c11_7_0 := cl hh11 hz10_7 c10_7_0; have c11_7_1 := cl hh11 hz10_7 c10_7_1; have c11_7_2 := cl hh11 hz10_7 c10_7_2; have c11_7_3 := cl hh11 hz10_7 c10_7_3; have c11_7_4 := cl hh11 hz10_7 c10_7_4; have c11_7_5 := cl hh11 hz10_7 c10_7_5; have c11_7_6 := cl hh11 hz10_7 c10_7_6; have hz11_7 : (w8.heap.size) < w11.heap.size := Nat.lt_of_lt_of_le hz10_7 hh11.size; have X0_11 : Hid (RingOwn (w4.heap.size) w5.heap.size w11 (.agg #[.slice y0a0 y0n0 y0c0, .slice y0a1 y0n1 y0c1]) (ks0, ns0)) := X0_10.out.below hh11; have X2_11 : Hid (BookOwn (w5.heap.size + 1) w6.heap.size w11 (.agg #[.slice y2a0 y2n0 y2c0, .slice y2a1 y2n1 y2c1]) (xs2, es2)) := X2_10.out.below hh11; have X3_11 : Hid (BookOwn (w6.heap.size + 1) w7.heap.size w11 (.agg #[.slice y3a0 y3n0 y3c0, .slice y3a1 y3n1 y3c1]) (xs3, es3)) := X3_10.out.below hh11; have G_11 : Hid (RelOwn (w7.heap.size + 1) w8.heap.size w11 (.agg #[.int .i64 g0b0, .slice g0a1 g0n1 g0c1, .slice g0a2 g0n2 g0c2, .bool g0b3, .slice g0a4 g0n4 g0c4, .string g0b5, .string g0b6]) L0) := G_10.out.below hh11; have Ub0_11 : Hid (RingAt w11 (ub0) (ks0, ns0)) := Ub0_10.out.below hh11; have HZ11 : Hid (w10.heap.size ≤ w11.heap.size) := hh11.size; clear c10_0_0 c10_0_1 hz10_0 c10_1_0 c10_1_1 hz10_1 c10_2_0 c10_2_1 hz10_2 c10_3_0 c10_3_1 c10_3_2 c10_3_3 c10_3_4 c10_3_5 c10_3_6 hz10_3 c10_4_0 c10_4_1 hz10_4 c10_5_0 c10_5_1 hz10_5 c10_6_0 c10_6_1 hz10_6 c10_7_0 c10_7_1 c10_7_2 c10_7_3 c10_7_4 c10_7_5 c10_7_6 hz10_7 X0_10 X2_10 X3_10 G_10 Ub0_10 hb11 hh11)
        | (go_at_call 8; refine (toRing_u _ _ (ks0, ns0) (HA0.out.below (HB9.out.trans (Below.mono (Below.drew (Below.refl w9.heap.size w9)) HB9.out.size))) HN0.out).mono ?_; rintro e w10 ⟨ub0, rfl, hu10, hb10⟩; have hh10 : Below w9.heap.size w9 w10 := Below.trans (Below.drew (Below.refl w9.heap.size w9)) (Below.mono hb10 (Below.size (Below.drew (Below.refl w9.heap.size w9)))); have HB10 : Hid (Below w.heap.size w w10) := HB9.out.trans (hh10.mono HB9.out.size); have BC10 : Hid (Below w4.heap.size w4 w10) := BC9.out.trans (hh10.mono BC9.out.size); have c10_0_0 := cl hh10 hz9_0 c9_0_0; have c10_0_1 := cl hh10 hz9_0 c9_0_1; have hz10_0 : (w.heap.size) < w10.heap.size := Nat.lt_of_lt_of_le hz9_0 hh10.size; have c10_1_0 := cl hh10 hz9_1 c9_1_0; have c10_1_1 := cl hh10 hz9_1 c9_1_1; have hz10_1 : (w.heap.size + 1) < w10.heap.size := Nat.lt_of_lt_of_le hz9_1 hh10.size; have c10_2_0 := cl hh10 hz9_2 c9_2_0; have c10_2_1 := cl hh10 hz9_2 c9_2_1; have hz10_2 : (w.heap.size + 1 + 1) < w10.heap.size := Nat.lt_of_lt_of_le hz9_2 hh10.size; have c10_3_0 := cl hh10 hz9_3 c9_3_0; have c10_3_1 := cl hh10 hz9_3 c9_3_1; have c10_3_2 := cl hh10 hz9_3 c9_3_2; have c10_3_3 := cl hh10 hz9_3 c9_3_3; have c10_3_4 := cl hh10 hz9_3 c9_3_4; have c10_3_5 := cl hh10 hz9_3 c9_3_5; have c10_3_6 := cl hh10 hz9_3 c9_3_6; have hz10_3 : B4 < w10.heap.size := Nat.lt_of_lt_of_le hz9_3 hh10.size; have c10_4_0 := cl hh10 hz9_4 c9_4_0; have c10_4_1 := cl hh10 hz9_4 c9_4_1; have hz10_4 : (w5.heap.size) < w10.heap.size := Nat.lt_of_lt_of_le hz9_4 hh10.size; have c10_5_0 := cl hh10 hz9_5 c9_5_0; have c10_5_1 := cl hh10 hz9_5 c9_5_1; have hz10_5 : (w6.heap.size) < w10.heap.size := Nat.lt_of_lt_of_le hz9_5 hh10.size; have c10_6_0 := cl hh10 hz9_6 c9_6_0; have c10_6_1 := cl hh10 hz9_6 c9_6_1; have hz10_6 : (w7.heap.size) < w10.heap.size := Nat.lt_of_lt_of_le hz9_6 hh10.size; have c10_7_0 := cl hh10 hz9_7 c9_7_0; have c10_7_1 := cl hh10 hz9_7 c9_7_1; have c10_7_2 := cl hh10 hz9_7 c9_7_2; have c10_7_3 := cl hh10 hz9_7 c9_7_3; have c10_7_4 := cl hh10 hz9_7 c9_7_4; have c10_7_5 := cl hh10 hz9_7 c9_7_5; have c10_7_6 := cl hh10 hz9_7 c9_7_6; have hz10_7 : (w8.heap.size) < w10.heap.size := Nat.lt_of_lt_of_le hz9_7 hh10.size; have X0_10 : Hid (RingOwn (w4.heap.size) w5.heap.size w10 (.agg #[.slice y0a0 y0n0 y0c0, .slice y0a1 y0n1 y0c1]) (ks0, ns0)) := X0_9.out.below hh10; have X2_10 : Hid (BookOwn (w5.heap.size + 1) w6.heap.size w10 (.agg #[.slice y2a0 y2n0 y2c0, .slice y2a1 y2n1 y2c1]) (xs2, es2)) := X2_9.out.below hh10; have X3_10 : Hid (BookOwn (w6.heap.size + 1) w7.heap.size w10 (.agg #[.slice y3a0 y3n0 y3c0, .slice y3a1 y3n1 y3c1]) (xs3, es3)) := X3_9.out.below hh10; have G_10 : Hid (RelOwn (w7.heap.size + 1) w8.heap.size w10 (.agg #[.int .i64 g0b0, .slice g0a1 g0n1 g0c1, .slice g0a2 g0n2 g0c2, .bool g0b3, .slice g0a4 g0n4 g0c4, .string g0b5, .string g0b6]) L0) := G_9.out.below hh10; have HZ10 : Hid (w9.heap.size ≤ w10.heap.size) := hh10.size; clear c9_0_0 c9_0_1 hz9_0 c9_1_0 c9_1_1 hz9_1 c9_2_0 c9_2_1 hz9_2 c9_3_0 c9_3_1 c9_3_2 c9_3_3 c9_3_4 c9_3_5 c9_3_6 hz9_3 c9_4_0 c9_4_1 hz9_4 c9_5_0 c9_5_1 hz9_5 c9_6_0 c9_6_1 hz9_6 c9_7_0 c9_7_1 c9_7_2 c9_7_3 c9_7_4 c9_7_5 c9_7_6 hz9_7 X0_9 X2_9 X3_9 G_9 hb10 hh10; have Ub0_10 : Hid (RingAt w10 (ub0) (ks0, ns0)) := hu10.at; clear hu10))
    go_wp2_with fail
    go_region_held3 (fun w' => w'.cell? ⟨(w.heap.size), 0, none⟩ = some (va0) ∧ w'.cell? ⟨(w.heap.size), 1, none⟩ = some (vn0) ∧ w'.cell? ⟨(w.heap.size + 1), 0, none⟩ = some (va2) ∧ w'.cell? ⟨(w.heap.size + 1), 1, none⟩ = some (ve2) ∧ w'.cell? ⟨(w.heap.size + 1 + 1), 0, none⟩ = some (va3) ∧ w'.cell? ⟨(w.heap.size + 1 + 1), 1, none⟩ = some (ve3) ∧ w'.cell? ⟨B4, 0, none⟩ = some (.int .i64 p0b0) ∧ w'.cell? ⟨B4, 1, none⟩ = some (.slice p0a1 p0n1 p0c1) ∧ w'.cell? ⟨B4, 2, none⟩ = some (.slice p0a2 p0n2 p0c2) ∧ w'.cell? ⟨B4, 3, none⟩ = some (.bool p0b3) ∧ w'.cell? ⟨B4, 4, none⟩ = some (.slice p0a4 p0n4 p0c4) ∧ w'.cell? ⟨B4, 5, none⟩ = some (.string p0b5) ∧ w'.cell? ⟨B4, 6, none⟩ = some (.string p0b6) ∧ w'.cell? ⟨(w5.heap.size), 0, none⟩ = some (.slice y0a0 y0n0 y0c0) ∧ w'.cell? ⟨(w5.heap.size), 1, none⟩ = some (.slice y0a1 y0n1 y0c1) ∧ w'.cell? ⟨(w6.heap.size), 0, none⟩ = some (.slice y2a0 y2n0 y2c0) ∧ w'.cell? ⟨(w6.heap.size), 1, none⟩ = some (.slice y2a1 y2n1 y2c1) ∧ w'.cell? ⟨(w7.heap.size), 0, none⟩ = some (.slice y3a0 y3n0 y3c0) ∧ w'.cell? ⟨(w7.heap.size), 1, none⟩ = some (.slice y3a1 y3n1 y3c1) ∧ w'.cell? ⟨(w8.heap.size), 0, none⟩ = some (.int .i64 g0b0) ∧ w'.cell? ⟨(w8.heap.size), 1, none⟩ = some (.slice g0a1 g0n1 g0c1) ∧ w'.cell? ⟨(w8.heap.size), 2, none⟩ = some (.slice g0a2 g0n2 g0c2) ∧ w'.cell? ⟨(w8.heap.size), 3, none⟩ = some (.bool g0b3) ∧ w'.cell? ⟨(w8.heap.size), 4, none⟩ = some (.slice g0a4 g0n4 g0c4) ∧ w'.cell? ⟨(w8.heap.size), 5, none⟩ = some (.string g0b5) ∧ w'.cell? ⟨(w8.heap.size), 6, none⟩ = some (.string g0b6)) (go_keep)
      (first
        | (have qm := HB12; clear qm; go_at_call 13; refine (eqBook_u _ _ _ (xs2, es2) (X2_12.out).at Ub2_12.out).mono ?_; rintro e w13 ⟨rfl, hb13⟩; have hh13 : Below w12.heap.size w12 w13 := hb13; have HB13 : Hid (Below w.heap.size w w13) := HB12.out.trans (hh13.mono HB12.out.size); have BC13 : Hid (Below w4.heap.size w4 w13) := BC12.out.trans (hh13.mono BC12.out.size); have c13_0_0 := cl hh13 hz12_0 c12_0_0; have c13_0_1 := cl hh13 hz12_0 c12_0_1; have hz13_0 : (w.heap.size) < w13.heap.size := Nat.lt_of_lt_of_le hz12_0 hh13.size; have c13_1_0 := cl hh13 hz12_1 c12_1_0; have c13_1_1 := cl hh13 hz12_1 c12_1_1; have hz13_1 : (w.heap.size + 1) < w13.heap.size := Nat.lt_of_lt_of_le hz12_1 hh13.size; have c13_2_0 := cl hh13 hz12_2 c12_2_0; have c13_2_1 := cl hh13 hz12_2 c12_2_1; have hz13_2 : (w.heap.size + 1 + 1) < w13.heap.size := Nat.lt_of_lt_of_le hz12_2 hh13.size; have c13_3_0 := cl hh13 hz12_3 c12_3_0; have c13_3_1 := cl hh13 hz12_3 c12_3_1; have c13_3_2 := cl hh13 hz12_3 c12_3_2; have c13_3_3 := cl hh13 hz12_3 c12_3_3; have c13_3_4 := cl hh13 hz12_3 c12_3_4; have c13_3_5 := cl hh13 hz12_3 c12_3_5; have c13_3_6 := cl hh13 hz12_3 c12_3_6; have hz13_3 : B4 < w13.heap.size := Nat.lt_of_lt_of_le hz12_3 hh13.size; have c13_4_0 := cl hh13 hz12_4 c12_4_0; have c13_4_1 := cl hh13 hz12_4 c12_4_1; have hz13_4 : (w5.heap.size) < w13.heap.size := Nat.lt_of_lt_of_le hz12_4 hh13.size; have c13_5_0 := cl hh13 hz12_5 c12_5_0; have c13_5_1 := cl hh13 hz12_5 c12_5_1; have hz13_5 : (w6.heap.size) < w13.heap.size := Nat.lt_of_lt_of_le hz12_5 hh13.size; have c13_6_0 := cl hh13 hz12_6 c12_6_0; have c13_6_1 := cl hh13 hz12_6 c12_6_1; have hz13_6 : (w7.heap.size) < w13.heap.size := Nat.lt_of_lt_of_le hz12_6 hh13.size; have c13_7_0 := cl hh13 hz12_7 c12_7_0; have c13_7_1 := cl hh13 hz12_7 c12_7_1; have c13_7_2 := cl hh13 hz12_7 c12_7_2; have c13_7_3 := cl hh13 hz12_7 c12_7_3; have c13_7_4 := cl hh13 hz12_7 c12_7_4; have c13_7_5 := cl hh13 hz12_7 c12_7_5; have c13_7_6 := cl hh13 hz12_7 c12_7_6; have hz13_7 : (w8.heap.size) < w13.heap.size := Nat.lt_of_lt_of_le hz12_7 hh13.size; have X0_13 : Hid (RingOwn (w4.heap.size) w5.heap.size w13 (.agg #[.slice y0a0 y0n0 y0c0, .slice y0a1 y0n1 y0c1]) (ks0, ns0)) := X0_12.out.below hh13; have X2_13 : Hid (BookOwn (w5.heap.size + 1) w6.heap.size w13 (.agg #[.slice y2a0 y2n0 y2c0, .slice y2a1 y2n1 y2c1]) (xs2, es2)) := X2_12.out.below hh13; have X3_13 : Hid (BookOwn (w6.heap.size + 1) w7.heap.size w13 (.agg #[.slice y3a0 y3n0 y3c0, .slice y3a1 y3n1 y3c1]) (xs3, es3)) := X3_12.out.below hh13; have G_13 : Hid (RelOwn (w7.heap.size + 1) w8.heap.size w13 (.agg #[.int .i64 g0b0, .slice g0a1 g0n1 g0c1, .slice g0a2 g0n2 g0c2, .bool g0b3, .slice g0a4 g0n4 g0c4, .string g0b5, .string g0b6]) L0) := G_12.out.below hh13; have Ub2_13 : Hid (BookAt w13 (ub2) (xs2, es2)) := Ub2_12.out.below hh13; have HZ13 : Hid (w12.heap.size ≤ w13.heap.size) := hh13.size; clear c12_0_0 c12_0_1 hz12_0 c12_1_0 c12_1_1 hz12_1 c12_2_0 c12_2_1 hz12_2 c12_3_0 c12_3_1 c12_3_2 c12_3_3 c12_3_4 c12_3_5 c12_3_6 hz12_3 c12_4_0 c12_4_1 hz12_4 c12_5_0 c12_5_1 hz12_5 c12_6_0 c12_6_1 hz12_6 c12_7_0 c12_7_1 c12_7_2 c12_7_3 c12_7_4 c12_7_5 c12_7_6 hz12_7 X0_12 X2_12 X3_12 G_12 Ub2_12 hb13 hh13)
        | (go_at_call 9; refine (toBook_u _ _ (xs2, es2) (HA2.out.below (HB11.out.trans (Below.mono (Below.drew (Below.refl w11.heap.size w11)) HB11.out.size))) HN2.out).mono ?_; rintro e w12 ⟨ub2, rfl, hu12, hb12⟩; have hh12 : Below w11.heap.size w11 w12 := Below.trans (Below.drew (Below.refl w11.heap.size w11)) (Below.mono hb12 (Below.size (Below.drew (Below.refl w11.heap.size w11)))); have HB12 : Hid (Below w.heap.size w w12) := HB11.out.trans (hh12.mono HB11.out.size); have BC12 : Hid (Below w4.heap.size w4 w12) := BC11.out.trans (hh12.mono BC11.out.size); have c12_0_0 := cl hh12 hz11_0 c11_0_0; have c12_0_1 := cl hh12 hz11_0 c11_0_1; have hz12_0 : (w.heap.size) < w12.heap.size := Nat.lt_of_lt_of_le hz11_0 hh12.size; have c12_1_0 := cl hh12 hz11_1 c11_1_0; have c12_1_1 := cl hh12 hz11_1 c11_1_1; have hz12_1 : (w.heap.size + 1) < w12.heap.size := Nat.lt_of_lt_of_le hz11_1 hh12.size; have c12_2_0 := cl hh12 hz11_2 c11_2_0; have c12_2_1 := cl hh12 hz11_2 c11_2_1; have hz12_2 : (w.heap.size + 1 + 1) < w12.heap.size := Nat.lt_of_lt_of_le hz11_2 hh12.size; have c12_3_0 := cl hh12 hz11_3 c11_3_0; have c12_3_1 := cl hh12 hz11_3 c11_3_1; have c12_3_2 := cl hh12 hz11_3 c11_3_2; have c12_3_3 := cl hh12 hz11_3 c11_3_3; have c12_3_4 := cl hh12 hz11_3 c11_3_4; have c12_3_5 := cl hh12 hz11_3 c11_3_5; have c12_3_6 := cl hh12 hz11_3 c11_3_6; have hz12_3 : B4 < w12.heap.size := Nat.lt_of_lt_of_le hz11_3 hh12.size; have c12_4_0 := cl hh12 hz11_4 c11_4_0; have c12_4_1 := cl hh12 hz11_4 c11_4_1; have hz12_4 : (w5.heap.size) < w12.heap.size := Nat.lt_of_lt_of_le hz11_4 hh12.size; have c12_5_0 := cl hh12 hz11_5 c11_5_0; have c12_5_1 := cl hh12 hz11_5 c11_5_1; have hz12_5 : (w6.heap.size) < w12.heap.size := Nat.lt_of_lt_of_le hz11_5 hh12.size; have c12_6_0 := cl hh12 hz11_6 c11_6_0; have c12_6_1 := cl hh12 hz11_6 c11_6_1; have hz12_6 : (w7.heap.size) < w12.heap.size := Nat.lt_of_lt_of_le hz11_6 hh12.size; have c12_7_0 := cl hh12 hz11_7 c11_7_0; have c12_7_1 := cl hh12 hz11_7 c11_7_1; have c12_7_2 := cl hh12 hz11_7 c11_7_2; have c12_7_3 := cl hh12 hz11_7 c11_7_3; have c12_7_4 := cl hh12 hz11_7 c11_7_4; have c12_7_5 := cl hh12 hz11_7 c11_7_5; have c12_7_6 := cl hh12 hz11_7 c11_7_6; have hz12_7 : (w8.heap.size) < w12.heap.size := Nat.lt_of_lt_of_le hz11_7 hh12.size; have X0_12 : Hid (RingOwn (w4.heap.size) w5.heap.size w12 (.agg #[.slice y0a0 y0n0 y0c0, .slice y0a1 y0n1 y0c1]) (ks0, ns0)) := X0_11.out.below hh12; have X2_12 : Hid (BookOwn (w5.heap.size + 1) w6.heap.size w12 (.agg #[.slice y2a0 y2n0 y2c0, .slice y2a1 y2n1 y2c1]) (xs2, es2)) := X2_11.out.below hh12; have X3_12 : Hid (BookOwn (w6.heap.size + 1) w7.heap.size w12 (.agg #[.slice y3a0 y3n0 y3c0, .slice y3a1 y3n1 y3c1]) (xs3, es3)) := X3_11.out.below hh12; have G_12 : Hid (RelOwn (w7.heap.size + 1) w8.heap.size w12 (.agg #[.int .i64 g0b0, .slice g0a1 g0n1 g0c1, .slice g0a2 g0n2 g0c2, .bool g0b3, .slice g0a4 g0n4 g0c4, .string g0b5, .string g0b6]) L0) := G_11.out.below hh12; have HZ12 : Hid (w11.heap.size ≤ w12.heap.size) := hh12.size; clear c11_0_0 c11_0_1 hz11_0 c11_1_0 c11_1_1 hz11_1 c11_2_0 c11_2_1 hz11_2 c11_3_0 c11_3_1 c11_3_2 c11_3_3 c11_3_4 c11_3_5 c11_3_6 hz11_3 c11_4_0 c11_4_1 hz11_4 c11_5_0 c11_5_1 hz11_5 c11_6_0 c11_6_1 hz11_6 c11_7_0 c11_7_1 c11_7_2 c11_7_3 c11_7_4 c11_7_5 c11_7_6 hz11_7 X0_11 X2_11 X3_11 G_11 hb12 hh12; have Ub2_12 : Hid (BookAt w12 (ub2) (xs2, es2)) := hu12.at; clear hu12))
    go_wp2_with fail
    go_region_held3 (fun w' => w'.cell? ⟨(w.heap.size), 0, none⟩ = some (va0) ∧ w'.cell? ⟨(w.heap.size), 1, none⟩ = some (vn0) ∧ w'.cell? ⟨(w.heap.size + 1), 0, none⟩ = some (va2) ∧ w'.cell? ⟨(w.heap.size + 1), 1, none⟩ = some (ve2) ∧ w'.cell? ⟨(w.heap.size + 1 + 1), 0, none⟩ = some (va3) ∧ w'.cell? ⟨(w.heap.size + 1 + 1), 1, none⟩ = some (ve3) ∧ w'.cell? ⟨B4, 0, none⟩ = some (.int .i64 p0b0) ∧ w'.cell? ⟨B4, 1, none⟩ = some (.slice p0a1 p0n1 p0c1) ∧ w'.cell? ⟨B4, 2, none⟩ = some (.slice p0a2 p0n2 p0c2) ∧ w'.cell? ⟨B4, 3, none⟩ = some (.bool p0b3) ∧ w'.cell? ⟨B4, 4, none⟩ = some (.slice p0a4 p0n4 p0c4) ∧ w'.cell? ⟨B4, 5, none⟩ = some (.string p0b5) ∧ w'.cell? ⟨B4, 6, none⟩ = some (.string p0b6) ∧ w'.cell? ⟨(w5.heap.size), 0, none⟩ = some (.slice y0a0 y0n0 y0c0) ∧ w'.cell? ⟨(w5.heap.size), 1, none⟩ = some (.slice y0a1 y0n1 y0c1) ∧ w'.cell? ⟨(w6.heap.size), 0, none⟩ = some (.slice y2a0 y2n0 y2c0) ∧ w'.cell? ⟨(w6.heap.size), 1, none⟩ = some (.slice y2a1 y2n1 y2c1) ∧ w'.cell? ⟨(w7.heap.size), 0, none⟩ = some (.slice y3a0 y3n0 y3c0) ∧ w'.cell? ⟨(w7.heap.size), 1, none⟩ = some (.slice y3a1 y3n1 y3c1) ∧ w'.cell? ⟨(w8.heap.size), 0, none⟩ = some (.int .i64 g0b0) ∧ w'.cell? ⟨(w8.heap.size), 1, none⟩ = some (.slice g0a1 g0n1 g0c1) ∧ w'.cell? ⟨(w8.heap.size), 2, none⟩ = some (.slice g0a2 g0n2 g0c2) ∧ w'.cell? ⟨(w8.heap.size), 3, none⟩ = some (.bool g0b3) ∧ w'.cell? ⟨(w8.heap.size), 4, none⟩ = some (.slice g0a4 g0n4 g0c4) ∧ w'.cell? ⟨(w8.heap.size), 5, none⟩ = some (.string g0b5) ∧ w'.cell? ⟨(w8.heap.size), 6, none⟩ = some (.string g0b6)) (go_keep)
      (first
        | (have qm := HB14; clear qm; go_at_call 13; refine (eqBook_u _ _ _ (xs3, es3) (X3_14.out).at Ub3_14.out).mono ?_; rintro e w15 ⟨rfl, hb15⟩; have hh15 : Below w14.heap.size w14 w15 := hb15; have HB15 : Hid (Below w.heap.size w w15) := HB14.out.trans (hh15.mono HB14.out.size); have BC15 : Hid (Below w4.heap.size w4 w15) := BC14.out.trans (hh15.mono BC14.out.size); have c15_0_0 := cl hh15 hz14_0 c14_0_0; have c15_0_1 := cl hh15 hz14_0 c14_0_1; have hz15_0 : (w.heap.size) < w15.heap.size := Nat.lt_of_lt_of_le hz14_0 hh15.size; have c15_1_0 := cl hh15 hz14_1 c14_1_0; have c15_1_1 := cl hh15 hz14_1 c14_1_1; have hz15_1 : (w.heap.size + 1) < w15.heap.size := Nat.lt_of_lt_of_le hz14_1 hh15.size; have c15_2_0 := cl hh15 hz14_2 c14_2_0; have c15_2_1 := cl hh15 hz14_2 c14_2_1; have hz15_2 : (w.heap.size + 1 + 1) < w15.heap.size := Nat.lt_of_lt_of_le hz14_2 hh15.size; have c15_3_0 := cl hh15 hz14_3 c14_3_0; have c15_3_1 := cl hh15 hz14_3 c14_3_1; have c15_3_2 := cl hh15 hz14_3 c14_3_2; have c15_3_3 := cl hh15 hz14_3 c14_3_3; have c15_3_4 := cl hh15 hz14_3 c14_3_4; have c15_3_5 := cl hh15 hz14_3 c14_3_5; have c15_3_6 := cl hh15 hz14_3 c14_3_6; have hz15_3 : B4 < w15.heap.size := Nat.lt_of_lt_of_le hz14_3 hh15.size; have c15_4_0 := cl hh15 hz14_4 c14_4_0; have c15_4_1 := cl hh15 hz14_4 c14_4_1; have hz15_4 : (w5.heap.size) < w15.heap.size := Nat.lt_of_lt_of_le hz14_4 hh15.size; have c15_5_0 := cl hh15 hz14_5 c14_5_0; have c15_5_1 := cl hh15 hz14_5 c14_5_1; have hz15_5 : (w6.heap.size) < w15.heap.size := Nat.lt_of_lt_of_le hz14_5 hh15.size; have c15_6_0 := cl hh15 hz14_6 c14_6_0; have c15_6_1 := cl hh15 hz14_6 c14_6_1; have hz15_6 : (w7.heap.size) < w15.heap.size := Nat.lt_of_lt_of_le hz14_6 hh15.size; have c15_7_0 := cl hh15 hz14_7 c14_7_0; have c15_7_1 := cl hh15 hz14_7 c14_7_1; have c15_7_2 := cl hh15 hz14_7 c14_7_2; have c15_7_3 := cl hh15 hz14_7 c14_7_3; have c15_7_4 := cl hh15 hz14_7 c14_7_4; have c15_7_5 := cl hh15 hz14_7 c14_7_5; have c15_7_6 := cl hh15 hz14_7 c14_7_6; have hz15_7 : (w8.heap.size) < w15.heap.size := Nat.lt_of_lt_of_le hz14_7 hh15.size; have X0_15 : Hid (RingOwn (w4.heap.size) w5.heap.size w15 (.agg #[.slice y0a0 y0n0 y0c0, .slice y0a1 y0n1 y0c1]) (ks0, ns0)) := X0_14.out.below hh15; have X2_15 : Hid (BookOwn (w5.heap.size + 1) w6.heap.size w15 (.agg #[.slice y2a0 y2n0 y2c0, .slice y2a1 y2n1 y2c1]) (xs2, es2)) := X2_14.out.below hh15; have X3_15 : Hid (BookOwn (w6.heap.size + 1) w7.heap.size w15 (.agg #[.slice y3a0 y3n0 y3c0, .slice y3a1 y3n1 y3c1]) (xs3, es3)) := X3_14.out.below hh15; have G_15 : Hid (RelOwn (w7.heap.size + 1) w8.heap.size w15 (.agg #[.int .i64 g0b0, .slice g0a1 g0n1 g0c1, .slice g0a2 g0n2 g0c2, .bool g0b3, .slice g0a4 g0n4 g0c4, .string g0b5, .string g0b6]) L0) := G_14.out.below hh15; have Ub3_15 : Hid (BookAt w15 (ub3) (xs3, es3)) := Ub3_14.out.below hh15; have HZ15 : Hid (w14.heap.size ≤ w15.heap.size) := hh15.size; clear c14_0_0 c14_0_1 hz14_0 c14_1_0 c14_1_1 hz14_1 c14_2_0 c14_2_1 hz14_2 c14_3_0 c14_3_1 c14_3_2 c14_3_3 c14_3_4 c14_3_5 c14_3_6 hz14_3 c14_4_0 c14_4_1 hz14_4 c14_5_0 c14_5_1 hz14_5 c14_6_0 c14_6_1 hz14_6 c14_7_0 c14_7_1 c14_7_2 c14_7_3 c14_7_4 c14_7_5 c14_7_6 hz14_7 X0_14 X2_14 X3_14 G_14 Ub3_14 hb15 hh15)
        | (go_at_call 9; refine (toBook_u _ _ (xs3, es3) (HA3.out.below (HB13.out.trans (Below.mono (Below.drew (Below.refl w13.heap.size w13)) HB13.out.size))) HN3.out).mono ?_; rintro e w14 ⟨ub3, rfl, hu14, hb14⟩; have hh14 : Below w13.heap.size w13 w14 := Below.trans (Below.drew (Below.refl w13.heap.size w13)) (Below.mono hb14 (Below.size (Below.drew (Below.refl w13.heap.size w13)))); have HB14 : Hid (Below w.heap.size w w14) := HB13.out.trans (hh14.mono HB13.out.size); have BC14 : Hid (Below w4.heap.size w4 w14) := BC13.out.trans (hh14.mono BC13.out.size); have c14_0_0 := cl hh14 hz13_0 c13_0_0; have c14_0_1 := cl hh14 hz13_0 c13_0_1; have hz14_0 : (w.heap.size) < w14.heap.size := Nat.lt_of_lt_of_le hz13_0 hh14.size; have c14_1_0 := cl hh14 hz13_1 c13_1_0; have c14_1_1 := cl hh14 hz13_1 c13_1_1; have hz14_1 : (w.heap.size + 1) < w14.heap.size := Nat.lt_of_lt_of_le hz13_1 hh14.size; have c14_2_0 := cl hh14 hz13_2 c13_2_0; have c14_2_1 := cl hh14 hz13_2 c13_2_1; have hz14_2 : (w.heap.size + 1 + 1) < w14.heap.size := Nat.lt_of_lt_of_le hz13_2 hh14.size; have c14_3_0 := cl hh14 hz13_3 c13_3_0; have c14_3_1 := cl hh14 hz13_3 c13_3_1; have c14_3_2 := cl hh14 hz13_3 c13_3_2; have c14_3_3 := cl hh14 hz13_3 c13_3_3; have c14_3_4 := cl hh14 hz13_3 c13_3_4; have c14_3_5 := cl hh14 hz13_3 c13_3_5; have c14_3_6 := cl hh14 hz13_3 c13_3_6; have hz14_3 : B4 < w14.heap.size := Nat.lt_of_lt_of_le hz13_3 hh14.size; have c14_4_0 := cl hh14 hz13_4 c13_4_0; have c14_4_1 := cl hh14 hz13_4 c13_4_1; have hz14_4 : (w5.heap.size) < w14.heap.size := Nat.lt_of_lt_of_le hz13_4 hh14.size; have c14_5_0 := cl hh14 hz13_5 c13_5_0; have c14_5_1 := cl hh14 hz13_5 c13_5_1; have hz14_5 : (w6.heap.size) < w14.heap.size := Nat.lt_of_lt_of_le hz13_5 hh14.size; have c14_6_0 := cl hh14 hz13_6 c13_6_0; have c14_6_1 := cl hh14 hz13_6 c13_6_1; have hz14_6 : (w7.heap.size) < w14.heap.size := Nat.lt_of_lt_of_le hz13_6 hh14.size; have c14_7_0 := cl hh14 hz13_7 c13_7_0; have c14_7_1 := cl hh14 hz13_7 c13_7_1; have c14_7_2 := cl hh14 hz13_7 c13_7_2; have c14_7_3 := cl hh14 hz13_7 c13_7_3; have c14_7_4 := cl hh14 hz13_7 c13_7_4; have c14_7_5 := cl hh14 hz13_7 c13_7_5; have c14_7_6 := cl hh14 hz13_7 c13_7_6; have hz14_7 : (w8.heap.size) < w14.heap.size := Nat.lt_of_lt_of_le hz13_7 hh14.size; have X0_14 : Hid (RingOwn (w4.heap.size) w5.heap.size w14 (.agg #[.slice y0a0 y0n0 y0c0, .slice y0a1 y0n1 y0c1]) (ks0, ns0)) := X0_13.out.below hh14; have X2_14 : Hid (BookOwn (w5.heap.size + 1) w6.heap.size w14 (.agg #[.slice y2a0 y2n0 y2c0, .slice y2a1 y2n1 y2c1]) (xs2, es2)) := X2_13.out.below hh14; have X3_14 : Hid (BookOwn (w6.heap.size + 1) w7.heap.size w14 (.agg #[.slice y3a0 y3n0 y3c0, .slice y3a1 y3n1 y3c1]) (xs3, es3)) := X3_13.out.below hh14; have G_14 : Hid (RelOwn (w7.heap.size + 1) w8.heap.size w14 (.agg #[.int .i64 g0b0, .slice g0a1 g0n1 g0c1, .slice g0a2 g0n2 g0c2, .bool g0b3, .slice g0a4 g0n4 g0c4, .string g0b5, .string g0b6]) L0) := G_13.out.below hh14; have HZ14 : Hid (w13.heap.size ≤ w14.heap.size) := hh14.size; clear c13_0_0 c13_0_1 hz13_0 c13_1_0 c13_1_1 hz13_1 c13_2_0 c13_2_1 hz13_2 c13_3_0 c13_3_1 c13_3_2 c13_3_3 c13_3_4 c13_3_5 c13_3_6 hz13_3 c13_4_0 c13_4_1 hz13_4 c13_5_0 c13_5_1 hz13_5 c13_6_0 c13_6_1 hz13_6 c13_7_0 c13_7_1 c13_7_2 c13_7_3 c13_7_4 c13_7_5 c13_7_6 hz13_7 X0_13 X2_13 X3_13 G_13 hb14 hh14; have Ub3_14 : Hid (BookAt w14 (ub3) (xs3, es3)) := hu14.at; clear hu14))
    go_wp2_with fail
    have hk0 : (1 : Nat) ≤ 1 := Nat.le_refl _
    obtain ⟨k0, hk0⟩ : ∃ K : Nat, 1 + ringCnt (ks0, ns0) = K := ⟨_, rfl⟩
    have sm0 := HN0.out
    have hc0 : ringCnt (ks0, ns0) ≤ 40000000 := by unfold RingSm at sm0; unfold ringCnt; omega
    clear sm0
    refine (cK (markRing_u (w4.heap.size) w5.heap.size 1 _ _ (ks0, ns0) X0_15.out HN0.out (by omega) (by have z1 := HZ1.out; have z2 := HZ2.out; have z3 := HZ3.out; have z4 := HZ4.out; have z5 := HZ5.out; have z6 := HZ6.out; have z7 := HZ7.out; have z8 := HZ8.out; have z9 := HZ9.out; have z10 := HZ10.out; have z11 := HZ11.out; have z12 := HZ12.out; have z13 := HZ13.out; have z14 := HZ14.out; have z15 := HZ15.out; omega) (by have z1 := HZ1.out; have z2 := HZ2.out; have z3 := HZ3.out; have z4 := HZ4.out; have z5 := HZ5.out; have z6 := HZ6.out; have z7 := HZ7.out; have z8 := HZ8.out; have z9 := HZ9.out; have z10 := HZ10.out; have z11 := HZ11.out; have z12 := HZ12.out; have z13 := HZ13.out; have z14 := HZ14.out; have z15 := HZ15.out; omega)) hk0).mono ?_
    rintro e w16 ⟨rfl, _, hw16⟩
    have z1 := HZ1.out
    have z2 := HZ2.out
    have z3 := HZ3.out
    have z4 := HZ4.out
    have z5 := HZ5.out
    have z6 := HZ6.out
    have z7 := HZ7.out
    have z8 := HZ8.out
    have z9 := HZ9.out
    have z10 := HZ10.out
    have z11 := HZ11.out
    have z12 := HZ12.out
    have z13 := HZ13.out
    have z14 := HZ14.out
    have z15 := HZ15.out
    have HB16 : Hid (Below w.heap.size w w16) := HB15.out.trans (hw16.1.mono (show w.heap.size ≤ (w4.heap.size) from (by have z1 := HZ1.out; have z2 := HZ2.out; have z3 := HZ3.out; have z4 := HZ4.out; have z5 := HZ5.out; have z6 := HZ6.out; have z7 := HZ7.out; have z8 := HZ8.out; have z9 := HZ9.out; have z10 := HZ10.out; have z11 := HZ11.out; have z12 := HZ12.out; have z13 := HZ13.out; have z14 := HZ14.out; have z15 := HZ15.out; omega)))
    have BC16 : Hid (Below w4.heap.size w4 w16) := BC15.out.trans (hw16.1.mono (show w4.heap.size ≤ (w4.heap.size) from (by have z1 := HZ1.out; have z2 := HZ2.out; have z3 := HZ3.out; have z4 := HZ4.out; have z5 := HZ5.out; have z6 := HZ6.out; have z7 := HZ7.out; have z8 := HZ8.out; have z9 := HZ9.out; have z10 := HZ10.out; have z11 := HZ11.out; have z12 := HZ12.out; have z13 := HZ13.out; have z14 := HZ14.out; have z15 := HZ15.out; omega)))
    have c16_0_0 := clw hw16 (by omega) hz15_0 c15_0_0
    have c16_0_1 := clw hw16 (by omega) hz15_0 c15_0_1
    have hz16_0 : (w.heap.size) < w16.heap.size := Nat.lt_of_lt_of_le hz15_0 hw16.sz
    have c16_1_0 := clw hw16 (by omega) hz15_1 c15_1_0
    have c16_1_1 := clw hw16 (by omega) hz15_1 c15_1_1
    have hz16_1 : (w.heap.size + 1) < w16.heap.size := Nat.lt_of_lt_of_le hz15_1 hw16.sz
    have c16_2_0 := clw hw16 (by omega) hz15_2 c15_2_0
    have c16_2_1 := clw hw16 (by omega) hz15_2 c15_2_1
    have hz16_2 : (w.heap.size + 1 + 1) < w16.heap.size := Nat.lt_of_lt_of_le hz15_2 hw16.sz
    have c16_3_0 := clw hw16 (by omega) hz15_3 c15_3_0
    have c16_3_1 := clw hw16 (by omega) hz15_3 c15_3_1
    have c16_3_2 := clw hw16 (by omega) hz15_3 c15_3_2
    have c16_3_3 := clw hw16 (by omega) hz15_3 c15_3_3
    have c16_3_4 := clw hw16 (by omega) hz15_3 c15_3_4
    have c16_3_5 := clw hw16 (by omega) hz15_3 c15_3_5
    have c16_3_6 := clw hw16 (by omega) hz15_3 c15_3_6
    have hz16_3 : B4 < w16.heap.size := Nat.lt_of_lt_of_le hz15_3 hw16.sz
    have c16_4_0 := clw hw16 (by omega) hz15_4 c15_4_0
    have c16_4_1 := clw hw16 (by omega) hz15_4 c15_4_1
    have hz16_4 : (w5.heap.size) < w16.heap.size := Nat.lt_of_lt_of_le hz15_4 hw16.sz
    have c16_5_0 := clw hw16 (by omega) hz15_5 c15_5_0
    have c16_5_1 := clw hw16 (by omega) hz15_5 c15_5_1
    have hz16_5 : (w6.heap.size) < w16.heap.size := Nat.lt_of_lt_of_le hz15_5 hw16.sz
    have c16_6_0 := clw hw16 (by omega) hz15_6 c15_6_0
    have c16_6_1 := clw hw16 (by omega) hz15_6 c15_6_1
    have hz16_6 : (w7.heap.size) < w16.heap.size := Nat.lt_of_lt_of_le hz15_6 hw16.sz
    have c16_7_0 := clw hw16 (by omega) hz15_7 c15_7_0
    have c16_7_1 := clw hw16 (by omega) hz15_7 c15_7_1
    have c16_7_2 := clw hw16 (by omega) hz15_7 c15_7_2
    have c16_7_3 := clw hw16 (by omega) hz15_7 c15_7_3
    have c16_7_4 := clw hw16 (by omega) hz15_7 c15_7_4
    have c16_7_5 := clw hw16 (by omega) hz15_7 c15_7_5
    have c16_7_6 := clw hw16 (by omega) hz15_7 c15_7_6
    have hz16_7 : (w8.heap.size) < w16.heap.size := Nat.lt_of_lt_of_le hz15_7 hw16.sz
    have X2_16 : Hid (BookOwn (w5.heap.size + 1) w6.heap.size w16 (.agg #[.slice y2a0 y2n0 y2c0, .slice y2a1 y2n1 y2c1]) (xs2, es2)) := X2_15.out.wr hw16 (by have z1 := HZ1.out; have z2 := HZ2.out; have z3 := HZ3.out; have z4 := HZ4.out; have z5 := HZ5.out; have z6 := HZ6.out; have z7 := HZ7.out; have z8 := HZ8.out; have z9 := HZ9.out; have z10 := HZ10.out; have z11 := HZ11.out; have z12 := HZ12.out; have z13 := HZ13.out; have z14 := HZ14.out; have z15 := HZ15.out; omega)
    have X3_16 : Hid (BookOwn (w6.heap.size + 1) w7.heap.size w16 (.agg #[.slice y3a0 y3n0 y3c0, .slice y3a1 y3n1 y3c1]) (xs3, es3)) := X3_15.out.wr hw16 (by have z1 := HZ1.out; have z2 := HZ2.out; have z3 := HZ3.out; have z4 := HZ4.out; have z5 := HZ5.out; have z6 := HZ6.out; have z7 := HZ7.out; have z8 := HZ8.out; have z9 := HZ9.out; have z10 := HZ10.out; have z11 := HZ11.out; have z12 := HZ12.out; have z13 := HZ13.out; have z14 := HZ14.out; have z15 := HZ15.out; omega)
    have G_16 : Hid (RelOwn (w7.heap.size + 1) w8.heap.size w16 (.agg #[.int .i64 g0b0, .slice g0a1 g0n1 g0c1, .slice g0a2 g0n2 g0c2, .bool g0b3, .slice g0a4 g0n4 g0c4, .string g0b5, .string g0b6]) L0) := G_15.out.wr hw16 (by have z1 := HZ1.out; have z2 := HZ2.out; have z3 := HZ3.out; have z4 := HZ4.out; have z5 := HZ5.out; have z6 := HZ6.out; have z7 := HZ7.out; have z8 := HZ8.out; have z9 := HZ9.out; have z10 := HZ10.out; have z11 := HZ11.out; have z12 := HZ12.out; have z13 := HZ13.out; have z14 := HZ14.out; have z15 := HZ15.out; omega)
    have HZ16 : Hid (w15.heap.size ≤ w16.heap.size) := hw16.sz
    clear c15_0_0 c15_0_1 hz15_0 c15_1_0 c15_1_1 hz15_1 c15_2_0 c15_2_1 hz15_2 c15_3_0 c15_3_1 c15_3_2 c15_3_3 c15_3_4 c15_3_5 c15_3_6 hz15_3 c15_4_0 c15_4_1 hz15_4 c15_5_0 c15_5_1 hz15_5 c15_6_0 c15_6_1 hz15_6 c15_7_0 c15_7_1 c15_7_2 c15_7_3 c15_7_4 c15_7_5 c15_7_6 hz15_7 X2_15 X3_15 G_15 z1 z2 z3 z4 z5 z6 z7 z8 z9 z10 z11 z12 z13 z14 z15 hw16
    have hkn0 : ¬ ((k0 : Int) < 0) := by omega
    have hkb0 : k0 ≤ 40000001 := by omega
    clear hk0
    go_wp2_with fail
    obtain ⟨k2, hk2⟩ : ∃ K : Nat, k0 + bookCnt (xs2, es2) = K := ⟨_, rfl⟩
    have sm2 := HN2.out
    have hc2 : bookCnt (xs2, es2) ≤ 40000000 := by unfold BookSm at sm2; unfold bookCnt; omega
    clear sm2
    refine (cK (markBook_u (w5.heap.size + 1) w6.heap.size k0 _ _ (xs2, es2) X2_16.out HN2.out (by omega) (by have z1 := HZ1.out; have z2 := HZ2.out; have z3 := HZ3.out; have z4 := HZ4.out; have z5 := HZ5.out; have z6 := HZ6.out; have z7 := HZ7.out; have z8 := HZ8.out; have z9 := HZ9.out; have z10 := HZ10.out; have z11 := HZ11.out; have z12 := HZ12.out; have z13 := HZ13.out; have z14 := HZ14.out; have z15 := HZ15.out; have z16 := HZ16.out; omega) (by have z1 := HZ1.out; have z2 := HZ2.out; have z3 := HZ3.out; have z4 := HZ4.out; have z5 := HZ5.out; have z6 := HZ6.out; have z7 := HZ7.out; have z8 := HZ8.out; have z9 := HZ9.out; have z10 := HZ10.out; have z11 := HZ11.out; have z12 := HZ12.out; have z13 := HZ13.out; have z14 := HZ14.out; have z15 := HZ15.out; have z16 := HZ16.out; omega)) hk2).mono ?_
    rintro e w17 ⟨rfl, _, hw17⟩
    have z1 := HZ1.out
    have z2 := HZ2.out
    have z3 := HZ3.out
    have z4 := HZ4.out
    have z5 := HZ5.out
    have z6 := HZ6.out
    have z7 := HZ7.out
    have z8 := HZ8.out
    have z9 := HZ9.out
    have z10 := HZ10.out
    have z11 := HZ11.out
    have z12 := HZ12.out
    have z13 := HZ13.out
    have z14 := HZ14.out
    have z15 := HZ15.out
    have z16 := HZ16.out
    have HB17 : Hid (Below w.heap.size w w17) := HB16.out.trans (hw17.1.mono (show w.heap.size ≤ (w5.heap.size + 1) from (by have z1 := HZ1.out; have z2 := HZ2.out; have z3 := HZ3.out; have z4 := HZ4.out; have z5 := HZ5.out; have z6 := HZ6.out; have z7 := HZ7.out; have z8 := HZ8.out; have z9 := HZ9.out; have z10 := HZ10.out; have z11 := HZ11.out; have z12 := HZ12.out; have z13 := HZ13.out; have z14 := HZ14.out; have z15 := HZ15.out; have z16 := HZ16.out; omega)))
    have BC17 : Hid (Below w4.heap.size w4 w17) := BC16.out.trans (hw17.1.mono (show w4.heap.size ≤ (w5.heap.size + 1) from (by have z1 := HZ1.out; have z2 := HZ2.out; have z3 := HZ3.out; have z4 := HZ4.out; have z5 := HZ5.out; have z6 := HZ6.out; have z7 := HZ7.out; have z8 := HZ8.out; have z9 := HZ9.out; have z10 := HZ10.out; have z11 := HZ11.out; have z12 := HZ12.out; have z13 := HZ13.out; have z14 := HZ14.out; have z15 := HZ15.out; have z16 := HZ16.out; omega)))
    have c17_0_0 := clw hw17 (by omega) hz16_0 c16_0_0
    have c17_0_1 := clw hw17 (by omega) hz16_0 c16_0_1
    have hz17_0 : (w.heap.size) < w17.heap.size := Nat.lt_of_lt_of_le hz16_0 hw17.sz
    have c17_1_0 := clw hw17 (by omega) hz16_1 c16_1_0
    have c17_1_1 := clw hw17 (by omega) hz16_1 c16_1_1
    have hz17_1 : (w.heap.size + 1) < w17.heap.size := Nat.lt_of_lt_of_le hz16_1 hw17.sz
    have c17_2_0 := clw hw17 (by omega) hz16_2 c16_2_0
    have c17_2_1 := clw hw17 (by omega) hz16_2 c16_2_1
    have hz17_2 : (w.heap.size + 1 + 1) < w17.heap.size := Nat.lt_of_lt_of_le hz16_2 hw17.sz
    have c17_3_0 := clw hw17 (by omega) hz16_3 c16_3_0
    have c17_3_1 := clw hw17 (by omega) hz16_3 c16_3_1
    have c17_3_2 := clw hw17 (by omega) hz16_3 c16_3_2
    have c17_3_3 := clw hw17 (by omega) hz16_3 c16_3_3
    have c17_3_4 := clw hw17 (by omega) hz16_3 c16_3_4
    have c17_3_5 := clw hw17 (by omega) hz16_3 c16_3_5
    have c17_3_6 := clw hw17 (by omega) hz16_3 c16_3_6
    have hz17_3 : B4 < w17.heap.size := Nat.lt_of_lt_of_le hz16_3 hw17.sz
    have c17_4_0 := clw hw17 (by omega) hz16_4 c16_4_0
    have c17_4_1 := clw hw17 (by omega) hz16_4 c16_4_1
    have hz17_4 : (w5.heap.size) < w17.heap.size := Nat.lt_of_lt_of_le hz16_4 hw17.sz
    have c17_5_0 := clw hw17 (by omega) hz16_5 c16_5_0
    have c17_5_1 := clw hw17 (by omega) hz16_5 c16_5_1
    have hz17_5 : (w6.heap.size) < w17.heap.size := Nat.lt_of_lt_of_le hz16_5 hw17.sz
    have c17_6_0 := clw hw17 (by omega) hz16_6 c16_6_0
    have c17_6_1 := clw hw17 (by omega) hz16_6 c16_6_1
    have hz17_6 : (w7.heap.size) < w17.heap.size := Nat.lt_of_lt_of_le hz16_6 hw17.sz
    have c17_7_0 := clw hw17 (by omega) hz16_7 c16_7_0
    have c17_7_1 := clw hw17 (by omega) hz16_7 c16_7_1
    have c17_7_2 := clw hw17 (by omega) hz16_7 c16_7_2
    have c17_7_3 := clw hw17 (by omega) hz16_7 c16_7_3
    have c17_7_4 := clw hw17 (by omega) hz16_7 c16_7_4
    have c17_7_5 := clw hw17 (by omega) hz16_7 c16_7_5
    have c17_7_6 := clw hw17 (by omega) hz16_7 c16_7_6
    have hz17_7 : (w8.heap.size) < w17.heap.size := Nat.lt_of_lt_of_le hz16_7 hw17.sz
    have X3_17 : Hid (BookOwn (w6.heap.size + 1) w7.heap.size w17 (.agg #[.slice y3a0 y3n0 y3c0, .slice y3a1 y3n1 y3c1]) (xs3, es3)) := X3_16.out.wr hw17 (by have z1 := HZ1.out; have z2 := HZ2.out; have z3 := HZ3.out; have z4 := HZ4.out; have z5 := HZ5.out; have z6 := HZ6.out; have z7 := HZ7.out; have z8 := HZ8.out; have z9 := HZ9.out; have z10 := HZ10.out; have z11 := HZ11.out; have z12 := HZ12.out; have z13 := HZ13.out; have z14 := HZ14.out; have z15 := HZ15.out; have z16 := HZ16.out; omega)
    have G_17 : Hid (RelOwn (w7.heap.size + 1) w8.heap.size w17 (.agg #[.int .i64 g0b0, .slice g0a1 g0n1 g0c1, .slice g0a2 g0n2 g0c2, .bool g0b3, .slice g0a4 g0n4 g0c4, .string g0b5, .string g0b6]) L0) := G_16.out.wr hw17 (by have z1 := HZ1.out; have z2 := HZ2.out; have z3 := HZ3.out; have z4 := HZ4.out; have z5 := HZ5.out; have z6 := HZ6.out; have z7 := HZ7.out; have z8 := HZ8.out; have z9 := HZ9.out; have z10 := HZ10.out; have z11 := HZ11.out; have z12 := HZ12.out; have z13 := HZ13.out; have z14 := HZ14.out; have z15 := HZ15.out; have z16 := HZ16.out; omega)
    have HZ17 : Hid (w16.heap.size ≤ w17.heap.size) := hw17.sz
    clear c16_0_0 c16_0_1 hz16_0 c16_1_0 c16_1_1 hz16_1 c16_2_0 c16_2_1 hz16_2 c16_3_0 c16_3_1 c16_3_2 c16_3_3 c16_3_4 c16_3_5 c16_3_6 hz16_3 c16_4_0 c16_4_1 hz16_4 c16_5_0 c16_5_1 hz16_5 c16_6_0 c16_6_1 hz16_6 c16_7_0 c16_7_1 c16_7_2 c16_7_3 c16_7_4 c16_7_5 c16_7_6 hz16_7 X3_16 G_16 z1 z2 z3 z4 z5 z6 z7 z8 z9 z10 z11 z12 z13 z14 z15 z16 hw17
    have hkn2 : ¬ ((k2 : Int) < 0) := by omega
    have hkb2 : k2 ≤ 80000001 := by omega
    clear hk2
    go_wp2_with fail
    obtain ⟨k3, hk3⟩ : ∃ K : Nat, k2 + bookCnt (xs3, es3) = K := ⟨_, rfl⟩
    have sm3 := HN3.out
    have hc3 : bookCnt (xs3, es3) ≤ 40000000 := by unfold BookSm at sm3; unfold bookCnt; omega
    clear sm3
    refine (cK (markBook_u (w6.heap.size + 1) w7.heap.size k2 _ _ (xs3, es3) X3_17.out HN3.out (by omega) (by have z1 := HZ1.out; have z2 := HZ2.out; have z3 := HZ3.out; have z4 := HZ4.out; have z5 := HZ5.out; have z6 := HZ6.out; have z7 := HZ7.out; have z8 := HZ8.out; have z9 := HZ9.out; have z10 := HZ10.out; have z11 := HZ11.out; have z12 := HZ12.out; have z13 := HZ13.out; have z14 := HZ14.out; have z15 := HZ15.out; have z16 := HZ16.out; have z17 := HZ17.out; omega) (by have z1 := HZ1.out; have z2 := HZ2.out; have z3 := HZ3.out; have z4 := HZ4.out; have z5 := HZ5.out; have z6 := HZ6.out; have z7 := HZ7.out; have z8 := HZ8.out; have z9 := HZ9.out; have z10 := HZ10.out; have z11 := HZ11.out; have z12 := HZ12.out; have z13 := HZ13.out; have z14 := HZ14.out; have z15 := HZ15.out; have z16 := HZ16.out; have z17 := HZ17.out; omega)) hk3).mono ?_
    rintro e w18 ⟨rfl, _, hw18⟩
    have z1 := HZ1.out
    have z2 := HZ2.out
    have z3 := HZ3.out
    have z4 := HZ4.out
    have z5 := HZ5.out
    have z6 := HZ6.out
    have z7 := HZ7.out
    have z8 := HZ8.out
    have z9 := HZ9.out
    have z10 := HZ10.out
    have z11 := HZ11.out
    have z12 := HZ12.out
    have z13 := HZ13.out
    have z14 := HZ14.out
    have z15 := HZ15.out
    have z16 := HZ16.out
    have z17 := HZ17.out
    have HB18 : Hid (Below w.heap.size w w18) := HB17.out.trans (hw18.1.mono (show w.heap.size ≤ (w6.heap.size + 1) from (by have z1 := HZ1.out; have z2 := HZ2.out; have z3 := HZ3.out; have z4 := HZ4.out; have z5 := HZ5.out; have z6 := HZ6.out; have z7 := HZ7.out; have z8 := HZ8.out; have z9 := HZ9.out; have z10 := HZ10.out; have z11 := HZ11.out; have z12 := HZ12.out; have z13 := HZ13.out; have z14 := HZ14.out; have z15 := HZ15.out; have z16 := HZ16.out; have z17 := HZ17.out; omega)))
    have BC18 : Hid (Below w4.heap.size w4 w18) := BC17.out.trans (hw18.1.mono (show w4.heap.size ≤ (w6.heap.size + 1) from (by have z1 := HZ1.out; have z2 := HZ2.out; have z3 := HZ3.out; have z4 := HZ4.out; have z5 := HZ5.out; have z6 := HZ6.out; have z7 := HZ7.out; have z8 := HZ8.out; have z9 := HZ9.out; have z10 := HZ10.out; have z11 := HZ11.out; have z12 := HZ12.out; have z13 := HZ13.out; have z14 := HZ14.out; have z15 := HZ15.out; have z16 := HZ16.out; have z17 := HZ17.out; omega)))
    have c18_0_0 := clw hw18 (by omega) hz17_0 c17_0_0
    have c18_0_1 := clw hw18 (by omega) hz17_0 c17_0_1
    have hz18_0 : (w.heap.size) < w18.heap.size := Nat.lt_of_lt_of_le hz17_0 hw18.sz
    have c18_1_0 := clw hw18 (by omega) hz17_1 c17_1_0
    have c18_1_1 := clw hw18 (by omega) hz17_1 c17_1_1
    have hz18_1 : (w.heap.size + 1) < w18.heap.size := Nat.lt_of_lt_of_le hz17_1 hw18.sz
    have c18_2_0 := clw hw18 (by omega) hz17_2 c17_2_0
    have c18_2_1 := clw hw18 (by omega) hz17_2 c17_2_1
    have hz18_2 : (w.heap.size + 1 + 1) < w18.heap.size := Nat.lt_of_lt_of_le hz17_2 hw18.sz
    have c18_3_0 := clw hw18 (by omega) hz17_3 c17_3_0
    have c18_3_1 := clw hw18 (by omega) hz17_3 c17_3_1
    have c18_3_2 := clw hw18 (by omega) hz17_3 c17_3_2
    have c18_3_3 := clw hw18 (by omega) hz17_3 c17_3_3
    have c18_3_4 := clw hw18 (by omega) hz17_3 c17_3_4
    have c18_3_5 := clw hw18 (by omega) hz17_3 c17_3_5
    have c18_3_6 := clw hw18 (by omega) hz17_3 c17_3_6
    have hz18_3 : B4 < w18.heap.size := Nat.lt_of_lt_of_le hz17_3 hw18.sz
    have c18_4_0 := clw hw18 (by omega) hz17_4 c17_4_0
    have c18_4_1 := clw hw18 (by omega) hz17_4 c17_4_1
    have hz18_4 : (w5.heap.size) < w18.heap.size := Nat.lt_of_lt_of_le hz17_4 hw18.sz
    have c18_5_0 := clw hw18 (by omega) hz17_5 c17_5_0
    have c18_5_1 := clw hw18 (by omega) hz17_5 c17_5_1
    have hz18_5 : (w6.heap.size) < w18.heap.size := Nat.lt_of_lt_of_le hz17_5 hw18.sz
    have c18_6_0 := clw hw18 (by omega) hz17_6 c17_6_0
    have c18_6_1 := clw hw18 (by omega) hz17_6 c17_6_1
    have hz18_6 : (w7.heap.size) < w18.heap.size := Nat.lt_of_lt_of_le hz17_6 hw18.sz
    have c18_7_0 := clw hw18 (by omega) hz17_7 c17_7_0
    have c18_7_1 := clw hw18 (by omega) hz17_7 c17_7_1
    have c18_7_2 := clw hw18 (by omega) hz17_7 c17_7_2
    have c18_7_3 := clw hw18 (by omega) hz17_7 c17_7_3
    have c18_7_4 := clw hw18 (by omega) hz17_7 c17_7_4
    have c18_7_5 := clw hw18 (by omega) hz17_7 c17_7_5
    have c18_7_6 := clw hw18 (by omega) hz17_7 c17_7_6
    have hz18_7 : (w8.heap.size) < w18.heap.size := Nat.lt_of_lt_of_le hz17_7 hw18.sz
    have G_18 : Hid (RelOwn (w7.heap.size + 1) w8.heap.size w18 (.agg #[.int .i64 g0b0, .slice g0a1 g0n1 g0c1, .slice g0a2 g0n2 g0c2, .bool g0b3, .slice g0a4 g0n4 g0c4, .string g0b5, .string g0b6]) L0) := G_17.out.wr hw18 (by have z1 := HZ1.out; have z2 := HZ2.out; have z3 := HZ3.out; have z4 := HZ4.out; have z5 := HZ5.out; have z6 := HZ6.out; have z7 := HZ7.out; have z8 := HZ8.out; have z9 := HZ9.out; have z10 := HZ10.out; have z11 := HZ11.out; have z12 := HZ12.out; have z13 := HZ13.out; have z14 := HZ14.out; have z15 := HZ15.out; have z16 := HZ16.out; have z17 := HZ17.out; omega)
    have HZ18 : Hid (w17.heap.size ≤ w18.heap.size) := hw18.sz
    clear c17_0_0 c17_0_1 hz17_0 c17_1_0 c17_1_1 hz17_1 c17_2_0 c17_2_1 hz17_2 c17_3_0 c17_3_1 c17_3_2 c17_3_3 c17_3_4 c17_3_5 c17_3_6 hz17_3 c17_4_0 c17_4_1 hz17_4 c17_5_0 c17_5_1 hz17_5 c17_6_0 c17_6_1 hz17_6 c17_7_0 c17_7_1 c17_7_2 c17_7_3 c17_7_4 c17_7_5 c17_7_6 hz17_7 G_17 z1 z2 z3 z4 z5 z6 z7 z8 z9 z10 z11 z12 z13 z14 z15 z16 z17 hw18
    have hkn3 : ¬ ((k3 : Int) < 0) := by omega
    have hkb3 : k3 ≤ 120000001 := by omega
    clear hk3
    go_wp2_with fail
    refine (eqRel_u _ _ _ L0 (G_18.out).at (HU.out.below BC18.out)).mono ?_
    rintro e w19 ⟨rfl, hb19⟩
    have hh19 : Below w18.heap.size w18 w19 := hb19
    have HB19 : Hid (Below w.heap.size w w19) := HB18.out.trans (hh19.mono HB18.out.size)
    have BC19 : Hid (Below w4.heap.size w4 w19) := BC18.out.trans (hh19.mono BC18.out.size)
    have c19_0_0 := cl hh19 hz18_0 c18_0_0
    have c19_0_1 := cl hh19 hz18_0 c18_0_1
    have hz19_0 : (w.heap.size) < w19.heap.size := Nat.lt_of_lt_of_le hz18_0 hh19.size
    have c19_1_0 := cl hh19 hz18_1 c18_1_0
    have c19_1_1 := cl hh19 hz18_1 c18_1_1
    have hz19_1 : (w.heap.size + 1) < w19.heap.size := Nat.lt_of_lt_of_le hz18_1 hh19.size
    have c19_2_0 := cl hh19 hz18_2 c18_2_0
    have c19_2_1 := cl hh19 hz18_2 c18_2_1
    have hz19_2 : (w.heap.size + 1 + 1) < w19.heap.size := Nat.lt_of_lt_of_le hz18_2 hh19.size
    have c19_3_0 := cl hh19 hz18_3 c18_3_0
    have c19_3_1 := cl hh19 hz18_3 c18_3_1
    have c19_3_2 := cl hh19 hz18_3 c18_3_2
    have c19_3_3 := cl hh19 hz18_3 c18_3_3
    have c19_3_4 := cl hh19 hz18_3 c18_3_4
    have c19_3_5 := cl hh19 hz18_3 c18_3_5
    have c19_3_6 := cl hh19 hz18_3 c18_3_6
    have hz19_3 : B4 < w19.heap.size := Nat.lt_of_lt_of_le hz18_3 hh19.size
    have c19_4_0 := cl hh19 hz18_4 c18_4_0
    have c19_4_1 := cl hh19 hz18_4 c18_4_1
    have hz19_4 : (w5.heap.size) < w19.heap.size := Nat.lt_of_lt_of_le hz18_4 hh19.size
    have c19_5_0 := cl hh19 hz18_5 c18_5_0
    have c19_5_1 := cl hh19 hz18_5 c18_5_1
    have hz19_5 : (w6.heap.size) < w19.heap.size := Nat.lt_of_lt_of_le hz18_5 hh19.size
    have c19_6_0 := cl hh19 hz18_6 c18_6_0
    have c19_6_1 := cl hh19 hz18_6 c18_6_1
    have hz19_6 : (w7.heap.size) < w19.heap.size := Nat.lt_of_lt_of_le hz18_6 hh19.size
    have c19_7_0 := cl hh19 hz18_7 c18_7_0
    have c19_7_1 := cl hh19 hz18_7 c18_7_1
    have c19_7_2 := cl hh19 hz18_7 c18_7_2
    have c19_7_3 := cl hh19 hz18_7 c18_7_3
    have c19_7_4 := cl hh19 hz18_7 c18_7_4
    have c19_7_5 := cl hh19 hz18_7 c18_7_5
    have c19_7_6 := cl hh19 hz18_7 c18_7_6
    have hz19_7 : (w8.heap.size) < w19.heap.size := Nat.lt_of_lt_of_le hz18_7 hh19.size
    have G_19 : Hid (RelOwn (w7.heap.size + 1) w8.heap.size w19 (.agg #[.int .i64 g0b0, .slice g0a1 g0n1 g0c1, .slice g0a2 g0n2 g0c2, .bool g0b3, .slice g0a4 g0n4 g0c4, .string g0b5, .string g0b6]) L0) := G_18.out.below hh19
    have HZ19 : Hid (w18.heap.size ≤ w19.heap.size) := hh19.size
    clear c18_0_0 c18_0_1 hz18_0 c18_1_0 c18_1_1 hz18_1 c18_2_0 c18_2_1 hz18_2 c18_3_0 c18_3_1 c18_3_2 c18_3_3 c18_3_4 c18_3_5 c18_3_6 hz18_3 c18_4_0 c18_4_1 hz18_4 c18_5_0 c18_5_1 hz18_5 c18_6_0 c18_6_1 hz18_6 c18_7_0 c18_7_1 c18_7_2 c18_7_3 c18_7_4 c18_7_5 c18_7_6 hz18_7 G_18 hb19 hh19
    go_wp2_with fail
    obtain ⟨km, hkm⟩ : ∃ K : Nat, 1 + relCnt L0 = K := ⟨_, rfl⟩
    have smr := HSM.out
    have hcr : relCnt L0 ≤ 40000000 := by unfold ReleaseSm DeltaSm at smr; unfold relCnt deltaCnt; omega
    clear smr
    have HKM : Hid (_ = km) := hkm
    refine (cK (markRel_u (w7.heap.size + 1) w8.heap.size 1 _ _ L0 G_19.out HSM.out (by omega) (by have z1 := HZ1.out; have z2 := HZ2.out; have z3 := HZ3.out; have z4 := HZ4.out; have z5 := HZ5.out; have z6 := HZ6.out; have z7 := HZ7.out; have z8 := HZ8.out; have z9 := HZ9.out; have z10 := HZ10.out; have z11 := HZ11.out; have z12 := HZ12.out; have z13 := HZ13.out; have z14 := HZ14.out; have z15 := HZ15.out; have z16 := HZ16.out; have z17 := HZ17.out; have z18 := HZ18.out; have z19 := HZ19.out; omega) (by have z1 := HZ1.out; have z2 := HZ2.out; have z3 := HZ3.out; have z4 := HZ4.out; have z5 := HZ5.out; have z6 := HZ6.out; have z7 := HZ7.out; have z8 := HZ8.out; have z9 := HZ9.out; have z10 := HZ10.out; have z11 := HZ11.out; have z12 := HZ12.out; have z13 := HZ13.out; have z14 := HZ14.out; have z15 := HZ15.out; have z16 := HZ16.out; have z17 := HZ17.out; have z18 := HZ18.out; have z19 := HZ19.out; omega)) HKM.out).mono ?_
    rintro e w20 ⟨rfl, hu20, hw20⟩
    have z1 := HZ1.out
    have z2 := HZ2.out
    have z3 := HZ3.out
    have z4 := HZ4.out
    have z5 := HZ5.out
    have z6 := HZ6.out
    have z7 := HZ7.out
    have z8 := HZ8.out
    have z9 := HZ9.out
    have z10 := HZ10.out
    have z11 := HZ11.out
    have z12 := HZ12.out
    have z13 := HZ13.out
    have z14 := HZ14.out
    have z15 := HZ15.out
    have z16 := HZ16.out
    have z17 := HZ17.out
    have z18 := HZ18.out
    have z19 := HZ19.out
    have HB20 : Hid (Below w.heap.size w w20) := HB19.out.trans (hw20.1.mono (show w.heap.size ≤ (w7.heap.size + 1) from (by have z1 := HZ1.out; have z2 := HZ2.out; have z3 := HZ3.out; have z4 := HZ4.out; have z5 := HZ5.out; have z6 := HZ6.out; have z7 := HZ7.out; have z8 := HZ8.out; have z9 := HZ9.out; have z10 := HZ10.out; have z11 := HZ11.out; have z12 := HZ12.out; have z13 := HZ13.out; have z14 := HZ14.out; have z15 := HZ15.out; have z16 := HZ16.out; have z17 := HZ17.out; have z18 := HZ18.out; have z19 := HZ19.out; omega)))
    have BC20 : Hid (Below w4.heap.size w4 w20) := BC19.out.trans (hw20.1.mono (show w4.heap.size ≤ (w7.heap.size + 1) from (by have z1 := HZ1.out; have z2 := HZ2.out; have z3 := HZ3.out; have z4 := HZ4.out; have z5 := HZ5.out; have z6 := HZ6.out; have z7 := HZ7.out; have z8 := HZ8.out; have z9 := HZ9.out; have z10 := HZ10.out; have z11 := HZ11.out; have z12 := HZ12.out; have z13 := HZ13.out; have z14 := HZ14.out; have z15 := HZ15.out; have z16 := HZ16.out; have z17 := HZ17.out; have z18 := HZ18.out; have z19 := HZ19.out; omega)))
    have c20_0_0 := clw hw20 (by omega) hz19_0 c19_0_0
    have c20_0_1 := clw hw20 (by omega) hz19_0 c19_0_1
    have hz20_0 : (w.heap.size) < w20.heap.size := Nat.lt_of_lt_of_le hz19_0 hw20.sz
    have c20_1_0 := clw hw20 (by omega) hz19_1 c19_1_0
    have c20_1_1 := clw hw20 (by omega) hz19_1 c19_1_1
    have hz20_1 : (w.heap.size + 1) < w20.heap.size := Nat.lt_of_lt_of_le hz19_1 hw20.sz
    have c20_2_0 := clw hw20 (by omega) hz19_2 c19_2_0
    have c20_2_1 := clw hw20 (by omega) hz19_2 c19_2_1
    have hz20_2 : (w.heap.size + 1 + 1) < w20.heap.size := Nat.lt_of_lt_of_le hz19_2 hw20.sz
    have c20_3_0 := clw hw20 (by omega) hz19_3 c19_3_0
    have c20_3_1 := clw hw20 (by omega) hz19_3 c19_3_1
    have c20_3_2 := clw hw20 (by omega) hz19_3 c19_3_2
    have c20_3_3 := clw hw20 (by omega) hz19_3 c19_3_3
    have c20_3_4 := clw hw20 (by omega) hz19_3 c19_3_4
    have c20_3_5 := clw hw20 (by omega) hz19_3 c19_3_5
    have c20_3_6 := clw hw20 (by omega) hz19_3 c19_3_6
    have hz20_3 : B4 < w20.heap.size := Nat.lt_of_lt_of_le hz19_3 hw20.sz
    have c20_4_0 := clw hw20 (by omega) hz19_4 c19_4_0
    have c20_4_1 := clw hw20 (by omega) hz19_4 c19_4_1
    have hz20_4 : (w5.heap.size) < w20.heap.size := Nat.lt_of_lt_of_le hz19_4 hw20.sz
    have c20_5_0 := clw hw20 (by omega) hz19_5 c19_5_0
    have c20_5_1 := clw hw20 (by omega) hz19_5 c19_5_1
    have hz20_5 : (w6.heap.size) < w20.heap.size := Nat.lt_of_lt_of_le hz19_5 hw20.sz
    have c20_6_0 := clw hw20 (by omega) hz19_6 c19_6_0
    have c20_6_1 := clw hw20 (by omega) hz19_6 c19_6_1
    have hz20_6 : (w7.heap.size) < w20.heap.size := Nat.lt_of_lt_of_le hz19_6 hw20.sz
    have c20_7_0 := clw hw20 (by omega) hz19_7 c19_7_0
    have c20_7_1 := clw hw20 (by omega) hz19_7 c19_7_1
    have c20_7_2 := clw hw20 (by omega) hz19_7 c19_7_2
    have c20_7_3 := clw hw20 (by omega) hz19_7 c19_7_3
    have c20_7_4 := clw hw20 (by omega) hz19_7 c19_7_4
    have c20_7_5 := clw hw20 (by omega) hz19_7 c19_7_5
    have c20_7_6 := clw hw20 (by omega) hz19_7 c19_7_6
    have hz20_7 : (w8.heap.size) < w20.heap.size := Nat.lt_of_lt_of_le hz19_7 hw20.sz
    have HZ20 : Hid (w19.heap.size ≤ w20.heap.size) := hw20.sz
    clear c19_0_0 c19_0_1 hz19_0 c19_1_0 c19_1_1 hz19_1 c19_2_0 c19_2_1 hz19_2 c19_3_0 c19_3_1 c19_3_2 c19_3_3 c19_3_4 c19_3_5 c19_3_6 hz19_3 c19_4_0 c19_4_1 hz19_4 c19_5_0 c19_5_1 hz19_5 c19_6_0 c19_6_1 hz19_6 c19_7_0 c19_7_1 c19_7_2 c19_7_3 c19_7_4 c19_7_5 c19_7_6 hz19_7 z1 z2 z3 z4 z5 z6 z7 z8 z9 z10 z11 z12 z13 z14 z15 z16 z17 z18 z19 hw20
    have Q_20 : Hid (RelOwn (w7.heap.size + 1) w8.heap.size w20 (.agg #[.int .i64 g0b0, .slice g0a1 g0n1 g0c1, .slice g0a2 g0n2 g0c2, .bool g0b3, .slice g0a4 g0n4 g0c4, .string g0b5, .string g0b6]) (relMk 1 L0)) := hu20
    clear hu20
    have hkmn : ¬ ((km : Int) < 0) := by omega
    clear hkm
    go_wp2_with fail
    refine (cK (heldRel_u _ _ 1 L0 (Q_20.out).at HSM.out (by omega)) HKM.out).mono ?_
    rintro e w21 ⟨rfl, hb21⟩
    have hh21 : Below w20.heap.size w20 w21 := hb21
    have HB21 : Hid (Below w.heap.size w w21) := HB20.out.trans (hh21.mono HB20.out.size)
    have BC21 : Hid (Below w4.heap.size w4 w21) := BC20.out.trans (hh21.mono BC20.out.size)
    have c21_0_0 := cl hh21 hz20_0 c20_0_0
    have c21_0_1 := cl hh21 hz20_0 c20_0_1
    have hz21_0 : (w.heap.size) < w21.heap.size := Nat.lt_of_lt_of_le hz20_0 hh21.size
    have c21_1_0 := cl hh21 hz20_1 c20_1_0
    have c21_1_1 := cl hh21 hz20_1 c20_1_1
    have hz21_1 : (w.heap.size + 1) < w21.heap.size := Nat.lt_of_lt_of_le hz20_1 hh21.size
    have c21_2_0 := cl hh21 hz20_2 c20_2_0
    have c21_2_1 := cl hh21 hz20_2 c20_2_1
    have hz21_2 : (w.heap.size + 1 + 1) < w21.heap.size := Nat.lt_of_lt_of_le hz20_2 hh21.size
    have c21_3_0 := cl hh21 hz20_3 c20_3_0
    have c21_3_1 := cl hh21 hz20_3 c20_3_1
    have c21_3_2 := cl hh21 hz20_3 c20_3_2
    have c21_3_3 := cl hh21 hz20_3 c20_3_3
    have c21_3_4 := cl hh21 hz20_3 c20_3_4
    have c21_3_5 := cl hh21 hz20_3 c20_3_5
    have c21_3_6 := cl hh21 hz20_3 c20_3_6
    have hz21_3 : B4 < w21.heap.size := Nat.lt_of_lt_of_le hz20_3 hh21.size
    have c21_4_0 := cl hh21 hz20_4 c20_4_0
    have c21_4_1 := cl hh21 hz20_4 c20_4_1
    have hz21_4 : (w5.heap.size) < w21.heap.size := Nat.lt_of_lt_of_le hz20_4 hh21.size
    have c21_5_0 := cl hh21 hz20_5 c20_5_0
    have c21_5_1 := cl hh21 hz20_5 c20_5_1
    have hz21_5 : (w6.heap.size) < w21.heap.size := Nat.lt_of_lt_of_le hz20_5 hh21.size
    have c21_6_0 := cl hh21 hz20_6 c20_6_0
    have c21_6_1 := cl hh21 hz20_6 c20_6_1
    have hz21_6 : (w7.heap.size) < w21.heap.size := Nat.lt_of_lt_of_le hz20_6 hh21.size
    have c21_7_0 := cl hh21 hz20_7 c20_7_0
    have c21_7_1 := cl hh21 hz20_7 c20_7_1
    have c21_7_2 := cl hh21 hz20_7 c20_7_2
    have c21_7_3 := cl hh21 hz20_7 c20_7_3
    have c21_7_4 := cl hh21 hz20_7 c20_7_4
    have c21_7_5 := cl hh21 hz20_7 c20_7_5
    have c21_7_6 := cl hh21 hz20_7 c20_7_6
    have hz21_7 : (w8.heap.size) < w21.heap.size := Nat.lt_of_lt_of_le hz20_7 hh21.size
    have Q_21 : Hid (RelOwn (w7.heap.size + 1) w8.heap.size w21 (.agg #[.int .i64 g0b0, .slice g0a1 g0n1 g0c1, .slice g0a2 g0n2 g0c2, .bool g0b3, .slice g0a4 g0n4 g0c4, .string g0b5, .string g0b6]) (relMk 1 L0)) := Q_20.out.below hh21
    have HZ21 : Hid (w20.heap.size ≤ w21.heap.size) := hh21.size
    clear c20_0_0 c20_0_1 hz20_0 c20_1_0 c20_1_1 hz20_1 c20_2_0 c20_2_1 hz20_2 c20_3_0 c20_3_1 c20_3_2 c20_3_3 c20_3_4 c20_3_5 c20_3_6 hz20_3 c20_4_0 c20_4_1 hz20_4 c20_5_0 c20_5_1 hz20_5 c20_6_0 c20_6_1 hz20_6 c20_7_0 c20_7_1 c20_7_2 c20_7_3 c20_7_4 c20_7_5 c20_7_6 hz20_7 Q_20 hb21 hh21
    go_wp2_with fail
    go_cut [20, 21] (fun u v0 wx => ∃ (Q lo hi : Nat) (e0b0 : Int) (e0a1 : Option Addr) (e0n1 e0c1 : Nat) (e0a2 : Option Addr) (e0n2 e0c2 : Nat) (e0b3 : Bool) (e0a4 : Option Addr) (e0n4 e0c4 : Nat) (e0b5 : ByteArray) (e0b6 : ByteArray), u = .pointer (some ⟨Q, 0, none⟩) ∧ v0 = .bool L1 ∧ wx.heap[Q]? = some (.cells #[.int .i64 e0b0, .slice e0a1 e0n1 e0c1, .slice e0a2 e0n2 e0c2, .bool e0b3, .slice e0a4 e0n4 e0c4, .string e0b5, .string e0b6] 37 (0, 0)) ∧ RelOwn lo hi wx (.agg #[.int .i64 e0b0, .slice e0a1 e0n1 e0c1, .slice e0a2 e0n2 e0c2, .bool e0b3, .slice e0a4 e0n4 e0c4, .string e0b5, .string e0b6]) L0 ∧ w21.heap.size ≤ lo ∧ lo ≤ hi ∧ hi ≤ wx.heap.size ∧ (Q < lo ∨ hi ≤ Q) ∧ Below w21.heap.size w21 wx ∧ w21.heap.size ≤ Q)
    case first =>
      have HS9 : Hid ((Tryz.prog.info? 37).map (·.size) = some 7) := by show _ = _; kernel_rfl
      have HC9 : Hid (∀ V, Below w21.heap.size w21 V → V.cell? ⟨(w.heap.size), 0, none⟩ = some (va0) ∧ V.cell? ⟨(w.heap.size), 1, none⟩ = some (vn0) ∧ V.cell? ⟨(w.heap.size + 1), 0, none⟩ = some (va2) ∧ V.cell? ⟨(w.heap.size + 1), 1, none⟩ = some (ve2) ∧ V.cell? ⟨(w.heap.size + 1 + 1), 0, none⟩ = some (va3) ∧ V.cell? ⟨(w.heap.size + 1 + 1), 1, none⟩ = some (ve3) ∧ V.cell? ⟨B4, 0, none⟩ = some (.int .i64 p0b0) ∧ V.cell? ⟨B4, 1, none⟩ = some (.slice p0a1 p0n1 p0c1) ∧ V.cell? ⟨B4, 2, none⟩ = some (.slice p0a2 p0n2 p0c2) ∧ V.cell? ⟨B4, 3, none⟩ = some (.bool p0b3) ∧ V.cell? ⟨B4, 4, none⟩ = some (.slice p0a4 p0n4 p0c4) ∧ V.cell? ⟨B4, 5, none⟩ = some (.string p0b5) ∧ V.cell? ⟨B4, 6, none⟩ = some (.string p0b6) ∧ V.cell? ⟨(w5.heap.size), 0, none⟩ = some (.slice y0a0 y0n0 y0c0) ∧ V.cell? ⟨(w5.heap.size), 1, none⟩ = some (.slice y0a1 y0n1 y0c1) ∧ V.cell? ⟨(w6.heap.size), 0, none⟩ = some (.slice y2a0 y2n0 y2c0) ∧ V.cell? ⟨(w6.heap.size), 1, none⟩ = some (.slice y2a1 y2n1 y2c1) ∧ V.cell? ⟨(w7.heap.size), 0, none⟩ = some (.slice y3a0 y3n0 y3c0) ∧ V.cell? ⟨(w7.heap.size), 1, none⟩ = some (.slice y3a1 y3n1 y3c1) ∧ V.cell? ⟨(w8.heap.size), 0, none⟩ = some (.int .i64 g0b0) ∧ V.cell? ⟨(w8.heap.size), 1, none⟩ = some (.slice g0a1 g0n1 g0c1) ∧ V.cell? ⟨(w8.heap.size), 2, none⟩ = some (.slice g0a2 g0n2 g0c2) ∧ V.cell? ⟨(w8.heap.size), 3, none⟩ = some (.bool g0b3) ∧ V.cell? ⟨(w8.heap.size), 4, none⟩ = some (.slice g0a4 g0n4 g0c4) ∧ V.cell? ⟨(w8.heap.size), 5, none⟩ = some (.string g0b5) ∧ V.cell? ⟨(w8.heap.size), 6, none⟩ = some (.string g0b6)) := fun V hV => ⟨cl hV hz21_0 c21_0_0, cl hV hz21_0 c21_0_1, cl hV hz21_1 c21_1_0, cl hV hz21_1 c21_1_1, cl hV hz21_2 c21_2_0, cl hV hz21_2 c21_2_1, cl hV hz21_3 c21_3_0, cl hV hz21_3 c21_3_1, cl hV hz21_3 c21_3_2, cl hV hz21_3 c21_3_3, cl hV hz21_3 c21_3_4, cl hV hz21_3 c21_3_5, cl hV hz21_3 c21_3_6, cl hV hz21_4 c21_4_0, cl hV hz21_4 c21_4_1, cl hV hz21_5 c21_5_0, cl hV hz21_5 c21_5_1, cl hV hz21_6 c21_6_0, cl hV hz21_6 c21_6_1, cl hV hz21_7 c21_7_0, cl hV hz21_7 c21_7_1, cl hV hz21_7 c21_7_2, cl hV hz21_7 c21_7_3, cl hV hz21_7 c21_7_4, cl hV hz21_7 c21_7_5, cl hV hz21_7 c21_7_6⟩
      refine wp_region_held_drew (S := (fun w' => w'.cell? ⟨(w.heap.size), 0, none⟩ = some (va0) ∧ w'.cell? ⟨(w.heap.size), 1, none⟩ = some (vn0) ∧ w'.cell? ⟨(w.heap.size + 1), 0, none⟩ = some (va2) ∧ w'.cell? ⟨(w.heap.size + 1), 1, none⟩ = some (ve2) ∧ w'.cell? ⟨(w.heap.size + 1 + 1), 0, none⟩ = some (va3) ∧ w'.cell? ⟨(w.heap.size + 1 + 1), 1, none⟩ = some (ve3) ∧ w'.cell? ⟨B4, 0, none⟩ = some (.int .i64 p0b0) ∧ w'.cell? ⟨B4, 1, none⟩ = some (.slice p0a1 p0n1 p0c1) ∧ w'.cell? ⟨B4, 2, none⟩ = some (.slice p0a2 p0n2 p0c2) ∧ w'.cell? ⟨B4, 3, none⟩ = some (.bool p0b3) ∧ w'.cell? ⟨B4, 4, none⟩ = some (.slice p0a4 p0n4 p0c4) ∧ w'.cell? ⟨B4, 5, none⟩ = some (.string p0b5) ∧ w'.cell? ⟨B4, 6, none⟩ = some (.string p0b6) ∧ w'.cell? ⟨(w5.heap.size), 0, none⟩ = some (.slice y0a0 y0n0 y0c0) ∧ w'.cell? ⟨(w5.heap.size), 1, none⟩ = some (.slice y0a1 y0n1 y0c1) ∧ w'.cell? ⟨(w6.heap.size), 0, none⟩ = some (.slice y2a0 y2n0 y2c0) ∧ w'.cell? ⟨(w6.heap.size), 1, none⟩ = some (.slice y2a1 y2n1 y2c1) ∧ w'.cell? ⟨(w7.heap.size), 0, none⟩ = some (.slice y3a0 y3n0 y3c0) ∧ w'.cell? ⟨(w7.heap.size), 1, none⟩ = some (.slice y3a1 y3n1 y3c1) ∧ w'.cell? ⟨(w8.heap.size), 0, none⟩ = some (.int .i64 g0b0) ∧ w'.cell? ⟨(w8.heap.size), 1, none⟩ = some (.slice g0a1 g0n1 g0c1) ∧ w'.cell? ⟨(w8.heap.size), 2, none⟩ = some (.slice g0a2 g0n2 g0c2) ∧ w'.cell? ⟨(w8.heap.size), 3, none⟩ = some (.bool g0b3) ∧ w'.cell? ⟨(w8.heap.size), 4, none⟩ = some (.slice g0a4 g0n4 g0c4) ∧ w'.cell? ⟨(w8.heap.size), 5, none⟩ = some (.string g0b5) ∧ w'.cell? ⟨(w8.heap.size), 6, none⟩ = some (.string g0b6))) (by kernel_rfl) ?_ (fun hHeld => ?_)
      · exact HC9.out w21 (Below.refl _ _)
      refine tk 0 120 (.agg #[va0, vn0]) ?_
      simp only [Act.put, List.setIfInBounds_toArray, List.set_cons_zero, List.set_cons_succ]
      refine tk 2 122 (.int .i64 n1) ?_
      simp only [Act.put, List.setIfInBounds_toArray, List.set_cons_zero, List.set_cons_succ]
      refine tk 3 123 (.agg #[va2, ve2]) ?_
      simp only [Act.put, List.setIfInBounds_toArray, List.set_cons_zero, List.set_cons_succ]
      refine tk 5 125 (.agg #[va3, ve3]) ?_
      simp only [Act.put, List.setIfInBounds_toArray, List.set_cons_zero, List.set_cons_succ]
      obtain ⟨x21_0, hx⟩ : ∃ X, World.drew w21 = X := ⟨_, rfl⟩
      have Kx21_0 : Hid (Below w21.heap.size w21 x21_0) := by show Below _ _ _; rw [← hx]; exact (Below.refl _ _).drew
      have Zx21_0 : Hid (w21.heap.size ≤ x21_0.heap.size) := Kx21_0.out.size
      rw [hx]
      clear hx c21_0_0 c21_0_1 c21_1_0 c21_1_1 c21_2_0 c21_2_1 c21_3_0 c21_3_1 c21_3_2 c21_3_3 c21_3_4 c21_3_5 c21_3_6 c21_4_0 c21_4_1 c21_5_0 c21_5_1 c21_6_0 c21_6_1 c21_7_0 c21_7_1 c21_7_2 c21_7_3 c21_7_4 c21_7_5 c21_7_6
      refine wpAnyH_ready (rs := [1, 11]) (by kernel_rfl) (by simp) ?_
      refine AllReadyH.cons rfl (fun K hK => ?_) (AllReadyH.cons rfl (fun K hK => ?_) AllReadyH.nil)
      · skip
        go_simp
        refine (toRing_u _ _ (ks0, ns0) (HA0.out.below (HB21.out.trans (Kx21_0.out.mono HB21.out.size))) HN0.out).mono ?_
        rintro e x21_1 ⟨u0, rfl, ho, hb⟩
        have U0x21_1 : Hid (RingAt x21_1 u0 (ks0, ns0)) := ho.at
        clear ho
        have Zx21_1 : Hid (x21_0.heap.size ≤ x21_1.heap.size) := hb.size
        have Kx21_1 : Hid (Below w21.heap.size w21 x21_1) := Kx21_0.out.trans (hb.mono Kx21_0.out.size)
        clear hb
        refine hK.out _ _ ?_ (fun hHeld => ?_)
        · exact HC9.out _ Kx21_1.out
        clear hK K
        try simp only [Act.put, List.setIfInBounds_toArray, List.set_cons_zero, List.set_cons_succ]
        refine wpAnyH_ready (rs := [4, 11]) (by kernel_rfl) (by simp) ?_
        refine AllReadyH.cons rfl (fun K hK => ?_) (AllReadyH.cons rfl (fun K hK => ?_) AllReadyH.nil)
        · skip
          go_simp
          refine (toBook_u _ _ (xs2, es2) (HA2.out.below (HB21.out.trans (Kx21_1.out.mono HB21.out.size))) HN2.out).mono ?_
          rintro e x21_2 ⟨u2, rfl, ho, hb⟩
          have U2x21_2 : Hid (BookAt x21_2 u2 (xs2, es2)) := ho.at
          clear ho
          have Zx21_2 : Hid (x21_1.heap.size ≤ x21_2.heap.size) := hb.size
          have Kx21_2 : Hid (Below w21.heap.size w21 x21_2) := Kx21_1.out.trans (hb.mono Kx21_1.out.size)
          have U0x21_2 : Hid (RingAt x21_2 u0 (ks0, ns0)) := U0x21_1.out.below hb
          clear hb
          refine hK.out _ _ ?_ (fun hHeld => ?_)
          · exact HC9.out _ Kx21_2.out
          clear hK K
          try simp only [Act.put, List.setIfInBounds_toArray, List.set_cons_zero, List.set_cons_succ]
          refine wpAnyH_ready (rs := [6, 11]) (by kernel_rfl) (by simp) ?_
          refine AllReadyH.cons rfl (fun K hK => ?_) (AllReadyH.cons rfl (fun K hK => ?_) AllReadyH.nil)
          · skip
            go_simp
            refine (toBook_u _ _ (xs3, es3) (HA3.out.below (HB21.out.trans (Kx21_2.out.mono HB21.out.size))) HN3.out).mono ?_
            rintro e x21_3 ⟨u3, rfl, ho, hb⟩
            have U3x21_3 : Hid (BookAt x21_3 u3 (xs3, es3)) := ho.at
            clear ho
            have Zx21_3 : Hid (x21_2.heap.size ≤ x21_3.heap.size) := hb.size
            have Kx21_3 : Hid (Below w21.heap.size w21 x21_3) := Kx21_2.out.trans (hb.mono Kx21_2.out.size)
            have U0x21_3 : Hid (RingAt x21_3 u0 (ks0, ns0)) := U0x21_2.out.below hb
            have U2x21_3 : Hid (BookAt x21_3 u2 (xs2, es2)) := U2x21_2.out.below hb
            clear hb
            refine hK.out _ _ ?_ (fun hHeld => ?_)
            · exact HC9.out _ Kx21_3.out
            clear hK K
            try simp only [Act.put, List.setIfInBounds_toArray, List.set_cons_zero, List.set_cons_succ]
            refine wpAnyH_ready (rs := [7, 11]) (by kernel_rfl) (by simp) ?_
            refine AllReadyH.cons rfl (fun K hK => ?_) (AllReadyH.cons rfl (fun K hK => ?_) AllReadyH.nil)
            · skip
              go_simp
              refine (HIM.out _ _ _ _ U0x21_3.out U2x21_3.out U3x21_3.out (TB0_0.out.below (HB21.out.trans (Kx21_3.out.mono HB21.out.size))) (TB1_0.out.below (HB21.out.trans (Kx21_3.out.mono HB21.out.size))) (TB2_0.out.below (HB21.out.trans (Kx21_3.out.mono HB21.out.size)))).mono ?_
              rintro e x21_4 ⟨e0b0, e0a1, e0n1, e0c1, e0a2, e0n2, e0c2, e0b3, e0a4, e0n4, e0c4, e0b5, e0b6, rfl, hg, hb⟩
              have Gx21_4 : Hid (RelOwn x21_3.heap.size x21_4.heap.size x21_4 (.agg #[.int .i64 e0b0, .slice e0a1 e0n1 e0c1, .slice e0a2 e0n2 e0c2, .bool e0b3, .slice e0a4 e0n4 e0c4, .string e0b5, .string e0b6]) L0) := hg
              clear hg
              have Zx21_4 : Hid (x21_3.heap.size ≤ x21_4.heap.size) := hb.size
              have Kx21_4 : Hid (Below w21.heap.size w21 x21_4) := Kx21_3.out.trans (hb.mono Kx21_3.out.size)
              have U0x21_4 : Hid (RingAt x21_4 u0 (ks0, ns0)) := U0x21_3.out.below hb
              have U2x21_4 : Hid (BookAt x21_4 u2 (xs2, es2)) := U2x21_3.out.below hb
              have U3x21_4 : Hid (BookAt x21_4 u3 (xs3, es3)) := U3x21_3.out.below hb
              clear hb
              refine hK.out _ _ ?_ (fun hHeld => ?_)
              · exact HC9.out _ Kx21_4.out
              clear hK K
              try simp only [Act.put, List.setIfInBounds_toArray, List.set_cons_zero, List.set_cons_succ]
              refine tk 8 119 (.tuple #[.agg #[.int .i64 e0b0, .slice e0a1 e0n1 e0c1, .slice e0a2 e0n2 e0c2, .bool e0b3, .slice e0a4 e0n4 e0c4, .string e0b5, .string e0b6], .bool L1]) ?_
              simp only [Act.put, List.setIfInBounds_toArray, List.set_cons_zero, List.set_cons_succ]
              refine tk 9 128 (.agg #[.int .i64 e0b0, .slice e0a1 e0n1 e0c1, .slice e0a2 e0n2 e0c2, .bool e0b3, .slice e0a4 e0n4 e0c4, .string e0b5, .string e0b6]) ?_
              simp only [Act.put, List.setIfInBounds_toArray, List.set_cons_zero, List.set_cons_succ]
              refine tk 10 129 (.bool L1) ?_
              simp only [Act.put, List.setIfInBounds_toArray, List.set_cons_zero, List.set_cons_succ]
              refine wpAnyH_ready (rs := [11]) (by kernel_rfl) (by simp) ?_
              refine AllReadyH.cons rfl (fun K hK => ?_) AllReadyH.nil
              go_simp
              have NA : Hid ((x21_4.alloc (.cells #[.int .i64 0, .slice none 0 0, .slice none 0 0, .bool false, .slice none 0 0, .string ⟨#[]⟩, .string ⟨#[]⟩] 37)).heap[x21_4.heap.size]? = some (.cells #[.int .i64 0, .slice none 0 0, .slice none 0 0, .bool false, .slice none 0 0, .string ⟨#[]⟩, .string ⟨#[]⟩] 37 (0, 0))) := heap_alloc_last _ _
              obtain ⟨x21_5, hx⟩ : ∃ X, x21_4.alloc (.cells #[.int .i64 0, .slice none 0 0, .slice none 0 0, .bool false, .slice none 0 0, .string ⟨#[]⟩, .string ⟨#[]⟩] 37) = X := ⟨_, rfl⟩
              have hb : Below x21_4.heap.size x21_4 x21_5 := by rw [← hx]; exact (Below.refl _ _).alloc (Nat.le_refl _) _
              have Zx21_5 : Hid (x21_4.heap.size < x21_5.heap.size) := by show _ < _; rw [← hx]; simp
              have Nx21_5 : Hid (x21_5.heap[x21_4.heap.size]? = some (.cells #[.int .i64 0, .slice none 0 0, .slice none 0 0, .bool false, .slice none 0 0, .string ⟨#[]⟩, .string ⟨#[]⟩] 37 (0, 0))) := by show _ = _; rw [← hx]; exact NA.out
              have HQ : Hid (w21.heap.size ≤ x21_4.heap.size) := Kx21_4.out.size
              rw [hx]
              clear hx NA
              have Kx21_5 : Hid (Below w21.heap.size w21 x21_5) := Kx21_4.out.trans (hb.mono Kx21_4.out.size)
              have Gx21_5 : Hid (RelOwn x21_3.heap.size x21_4.heap.size x21_5 (.agg #[.int .i64 e0b0, .slice e0a1 e0n1 e0c1, .slice e0a2 e0n2 e0c2, .bool e0b3, .slice e0a4 e0n4 e0c4, .string e0b5, .string e0b6]) L0) := Gx21_4.out.below hb
              clear hb
              refine hK.out _ _ ?_ (fun hHeld => ?_)
              · exact HC9.out _ Kx21_5.out
              clear hK K
              try simp only [Act.put, List.setIfInBounds_toArray, List.set_cons_zero, List.set_cons_succ]
              refine wpAnyH_ready (rs := [12]) (by kernel_rfl) (by simp) ?_
              refine AllReadyH.cons rfl (fun K hK => ?_) AllReadyH.nil
              refine step_store_row rfl 37 (.tmp 20) (.tmp 128) rfl (x21_4.heap.size) #[.int .i64 e0b0, .slice e0a1 e0n1 e0c1, .slice e0a2 e0n2 e0c2, .bool e0b3, .slice e0a4 e0n4 e0c4, .string e0b5, .string e0b6] rfl rfl 37 _ Nx21_5.out HS9.out rfl (by simp [Value.oneCell']) rfl ?_
              obtain ⟨V, hV⟩ : ∃ X, x21_5.setRow (x21_4.heap.size) #[.int .i64 e0b0, .slice e0a1 e0n1 e0c1, .slice e0a2 e0n2 e0c2, .bool e0b3, .slice e0a4 e0n4 e0c4, .string e0b5, .string e0b6] = X := ⟨_, rfl⟩
              have KV : Hid (Below w21.heap.size w21 V) := by show Below _ _ _; rw [← hV]; exact below_setRow Kx21_5.out HQ.out _
              have NV : Hid (V.heap[x21_4.heap.size]? = some (.cells #[.int .i64 e0b0, .slice e0a1 e0n1 e0c1, .slice e0a2 e0n2 e0c2, .bool e0b3, .slice e0a4 e0n4 e0c4, .string e0b5, .string e0b6] 37 (0, 0))) := by show _ = _; rw [← hV]; exact setRow_heap _ _ _ _ _ _ Nx21_5.out
              have zx21_0 := Zx21_0.out
              have zx21_1 := Zx21_1.out
              have zx21_2 := Zx21_2.out
              have zx21_3 := Zx21_3.out
              have zx21_4 := Zx21_4.out
              have zx21_5 := Zx21_5.out
              have hsV : V.heap.size = x21_5.heap.size := by rw [← hV]; simp
              have GV : Hid (RelOwn x21_3.heap.size x21_4.heap.size V (.agg #[.int .i64 e0b0, .slice e0a1 e0n1 e0c1, .slice e0a2 e0n2 e0c2, .bool e0b3, .slice e0a4 e0n4 e0c4, .string e0b5, .string e0b6]) L0) := by
                show RelOwn _ _ _ _ _
                rw [← hV]
                exact relOwn_setRow486 Gx21_5.out (q := x21_4.heap.size) (by omega) _
              rw [hV]
              clear hV
              refine hK.out _ _ ?_ (fun hHeld => ?_)
              · exact HC9.out _ KV.out
              clear hK K
              try simp only [Act.put, List.setIfInBounds_toArray, List.set_cons_zero, List.set_cons_succ]
              refine tk 13 21 (.bool L1) ?_
              simp only [Act.put, List.setIfInBounds_toArray, List.set_cons_zero, List.set_cons_succ]
              refine wpAnyH_done (by kernel_rfl) ?_ _
              go_wp2
              go_meet
              case rel =>
                exact ⟨_, _, _, _, _, _, _, _, _, _, _, _, _, _, _, _, rfl, rfl, NV.out, GV.out, by omega, by omega, by omega, by omega, KV.out, HQ.out⟩
            · skip
              go_simp
              have NA : Hid ((x21_3.alloc (.cells #[.int .i64 0, .slice none 0 0, .slice none 0 0, .bool false, .slice none 0 0, .string ⟨#[]⟩, .string ⟨#[]⟩] 37)).heap[x21_3.heap.size]? = some (.cells #[.int .i64 0, .slice none 0 0, .slice none 0 0, .bool false, .slice none 0 0, .string ⟨#[]⟩, .string ⟨#[]⟩] 37 (0, 0))) := heap_alloc_last _ _
              obtain ⟨x21_6, hx⟩ : ∃ X, x21_3.alloc (.cells #[.int .i64 0, .slice none 0 0, .slice none 0 0, .bool false, .slice none 0 0, .string ⟨#[]⟩, .string ⟨#[]⟩] 37) = X := ⟨_, rfl⟩
              have hb : Below x21_3.heap.size x21_3 x21_6 := by rw [← hx]; exact (Below.refl _ _).alloc (Nat.le_refl _) _
              have Zx21_6 : Hid (x21_3.heap.size < x21_6.heap.size) := by show _ < _; rw [← hx]; simp
              have Nx21_6 : Hid (x21_6.heap[x21_3.heap.size]? = some (.cells #[.int .i64 0, .slice none 0 0, .slice none 0 0, .bool false, .slice none 0 0, .string ⟨#[]⟩, .string ⟨#[]⟩] 37 (0, 0))) := by show _ = _; rw [← hx]; exact NA.out
              have HQ : Hid (w21.heap.size ≤ x21_3.heap.size) := Kx21_3.out.size
              rw [hx]
              clear hx NA
              have Kx21_6 : Hid (Below w21.heap.size w21 x21_6) := Kx21_3.out.trans (hb.mono Kx21_3.out.size)
              have U0x21_6 : Hid (RingAt x21_6 u0 (ks0, ns0)) := U0x21_3.out.below hb
              have U2x21_6 : Hid (BookAt x21_6 u2 (xs2, es2)) := U2x21_3.out.below hb
              have U3x21_6 : Hid (BookAt x21_6 u3 (xs3, es3)) := U3x21_3.out.below hb
              clear hb
              refine hK.out _ _ ?_ (fun hHeld => ?_)
              · exact HC9.out _ Kx21_6.out
              clear hK K
              try simp only [Act.put, List.setIfInBounds_toArray, List.set_cons_zero, List.set_cons_succ]
              refine wpAnyH_ready (rs := [7]) (by kernel_rfl) (by simp) ?_
              refine AllReadyH.cons rfl (fun K hK => ?_) AllReadyH.nil
              go_simp
              refine (HIM.out _ _ _ _ U0x21_6.out U2x21_6.out U3x21_6.out (TB0_0.out.below (HB21.out.trans (Kx21_6.out.mono HB21.out.size))) (TB1_0.out.below (HB21.out.trans (Kx21_6.out.mono HB21.out.size))) (TB2_0.out.below (HB21.out.trans (Kx21_6.out.mono HB21.out.size)))).mono ?_
              rintro e x21_7 ⟨e0b0, e0a1, e0n1, e0c1, e0a2, e0n2, e0c2, e0b3, e0a4, e0n4, e0c4, e0b5, e0b6, rfl, hg, hb⟩
              have Gx21_7 : Hid (RelOwn x21_6.heap.size x21_7.heap.size x21_7 (.agg #[.int .i64 e0b0, .slice e0a1 e0n1 e0c1, .slice e0a2 e0n2 e0c2, .bool e0b3, .slice e0a4 e0n4 e0c4, .string e0b5, .string e0b6]) L0) := hg
              clear hg
              have Zx21_7 : Hid (x21_6.heap.size ≤ x21_7.heap.size) := hb.size
              have Kx21_7 : Hid (Below w21.heap.size w21 x21_7) := Kx21_6.out.trans (hb.mono Kx21_6.out.size)
              have Nx21_7 : Hid (x21_7.heap[x21_3.heap.size]? = some (.cells #[.int .i64 0, .slice none 0 0, .slice none 0 0, .bool false, .slice none 0 0, .string ⟨#[]⟩, .string ⟨#[]⟩] 37 (0, 0))) := (hb.block _ (Array.getElem?_eq_some_iff.1 Nx21_6.out).1).trans Nx21_6.out
              have U0x21_7 : Hid (RingAt x21_7 u0 (ks0, ns0)) := U0x21_6.out.below hb
              have U2x21_7 : Hid (BookAt x21_7 u2 (xs2, es2)) := U2x21_6.out.below hb
              have U3x21_7 : Hid (BookAt x21_7 u3 (xs3, es3)) := U3x21_6.out.below hb
              clear hb
              refine hK.out _ _ ?_ (fun hHeld => ?_)
              · exact HC9.out _ Kx21_7.out
              clear hK K
              try simp only [Act.put, List.setIfInBounds_toArray, List.set_cons_zero, List.set_cons_succ]
              refine tk 8 119 (.tuple #[.agg #[.int .i64 e0b0, .slice e0a1 e0n1 e0c1, .slice e0a2 e0n2 e0c2, .bool e0b3, .slice e0a4 e0n4 e0c4, .string e0b5, .string e0b6], .bool L1]) ?_
              simp only [Act.put, List.setIfInBounds_toArray, List.set_cons_zero, List.set_cons_succ]
              refine tk 9 128 (.agg #[.int .i64 e0b0, .slice e0a1 e0n1 e0c1, .slice e0a2 e0n2 e0c2, .bool e0b3, .slice e0a4 e0n4 e0c4, .string e0b5, .string e0b6]) ?_
              simp only [Act.put, List.setIfInBounds_toArray, List.set_cons_zero, List.set_cons_succ]
              refine tk 10 129 (.bool L1) ?_
              simp only [Act.put, List.setIfInBounds_toArray, List.set_cons_zero, List.set_cons_succ]
              refine wpAnyH_ready (rs := [12]) (by kernel_rfl) (by simp) ?_
              refine AllReadyH.cons rfl (fun K hK => ?_) AllReadyH.nil
              refine step_store_row rfl 37 (.tmp 20) (.tmp 128) rfl (x21_3.heap.size) #[.int .i64 e0b0, .slice e0a1 e0n1 e0c1, .slice e0a2 e0n2 e0c2, .bool e0b3, .slice e0a4 e0n4 e0c4, .string e0b5, .string e0b6] rfl rfl 37 _ Nx21_7.out HS9.out rfl (by simp [Value.oneCell']) rfl ?_
              obtain ⟨V, hV⟩ : ∃ X, x21_7.setRow (x21_3.heap.size) #[.int .i64 e0b0, .slice e0a1 e0n1 e0c1, .slice e0a2 e0n2 e0c2, .bool e0b3, .slice e0a4 e0n4 e0c4, .string e0b5, .string e0b6] = X := ⟨_, rfl⟩
              have KV : Hid (Below w21.heap.size w21 V) := by show Below _ _ _; rw [← hV]; exact below_setRow Kx21_7.out HQ.out _
              have NV : Hid (V.heap[x21_3.heap.size]? = some (.cells #[.int .i64 e0b0, .slice e0a1 e0n1 e0c1, .slice e0a2 e0n2 e0c2, .bool e0b3, .slice e0a4 e0n4 e0c4, .string e0b5, .string e0b6] 37 (0, 0))) := by show _ = _; rw [← hV]; exact setRow_heap _ _ _ _ _ _ Nx21_7.out
              have zx21_0 := Zx21_0.out
              have zx21_1 := Zx21_1.out
              have zx21_2 := Zx21_2.out
              have zx21_3 := Zx21_3.out
              have zx21_6 := Zx21_6.out
              have zx21_7 := Zx21_7.out
              have hsV : V.heap.size = x21_7.heap.size := by rw [← hV]; simp
              have GV : Hid (RelOwn x21_6.heap.size x21_7.heap.size V (.agg #[.int .i64 e0b0, .slice e0a1 e0n1 e0c1, .slice e0a2 e0n2 e0c2, .bool e0b3, .slice e0a4 e0n4 e0c4, .string e0b5, .string e0b6]) L0) := by
                show RelOwn _ _ _ _ _
                rw [← hV]
                exact relOwn_setRow486 Gx21_7.out (q := x21_3.heap.size) (by omega) _
              rw [hV]
              clear hV
              refine hK.out _ _ ?_ (fun hHeld => ?_)
              · exact HC9.out _ KV.out
              clear hK K
              try simp only [Act.put, List.setIfInBounds_toArray, List.set_cons_zero, List.set_cons_succ]
              refine tk 13 21 (.bool L1) ?_
              simp only [Act.put, List.setIfInBounds_toArray, List.set_cons_zero, List.set_cons_succ]
              refine wpAnyH_done (by kernel_rfl) ?_ _
              go_wp2
              go_meet
              case rel =>
                exact ⟨_, _, _, _, _, _, _, _, _, _, _, _, _, _, _, _, rfl, rfl, NV.out, GV.out, by omega, by omega, by omega, by omega, KV.out, HQ.out⟩
          · skip
            go_simp
            have NA : Hid ((x21_2.alloc (.cells #[.int .i64 0, .slice none 0 0, .slice none 0 0, .bool false, .slice none 0 0, .string ⟨#[]⟩, .string ⟨#[]⟩] 37)).heap[x21_2.heap.size]? = some (.cells #[.int .i64 0, .slice none 0 0, .slice none 0 0, .bool false, .slice none 0 0, .string ⟨#[]⟩, .string ⟨#[]⟩] 37 (0, 0))) := heap_alloc_last _ _
            obtain ⟨x21_8, hx⟩ : ∃ X, x21_2.alloc (.cells #[.int .i64 0, .slice none 0 0, .slice none 0 0, .bool false, .slice none 0 0, .string ⟨#[]⟩, .string ⟨#[]⟩] 37) = X := ⟨_, rfl⟩
            have hb : Below x21_2.heap.size x21_2 x21_8 := by rw [← hx]; exact (Below.refl _ _).alloc (Nat.le_refl _) _
            have Zx21_8 : Hid (x21_2.heap.size < x21_8.heap.size) := by show _ < _; rw [← hx]; simp
            have Nx21_8 : Hid (x21_8.heap[x21_2.heap.size]? = some (.cells #[.int .i64 0, .slice none 0 0, .slice none 0 0, .bool false, .slice none 0 0, .string ⟨#[]⟩, .string ⟨#[]⟩] 37 (0, 0))) := by show _ = _; rw [← hx]; exact NA.out
            have HQ : Hid (w21.heap.size ≤ x21_2.heap.size) := Kx21_2.out.size
            rw [hx]
            clear hx NA
            have Kx21_8 : Hid (Below w21.heap.size w21 x21_8) := Kx21_2.out.trans (hb.mono Kx21_2.out.size)
            have U0x21_8 : Hid (RingAt x21_8 u0 (ks0, ns0)) := U0x21_2.out.below hb
            have U2x21_8 : Hid (BookAt x21_8 u2 (xs2, es2)) := U2x21_2.out.below hb
            clear hb
            refine hK.out _ _ ?_ (fun hHeld => ?_)
            · exact HC9.out _ Kx21_8.out
            clear hK K
            try simp only [Act.put, List.setIfInBounds_toArray, List.set_cons_zero, List.set_cons_succ]
            refine wpAnyH_ready (rs := [6]) (by kernel_rfl) (by simp) ?_
            refine AllReadyH.cons rfl (fun K hK => ?_) AllReadyH.nil
            go_simp
            refine (toBook_u _ _ (xs3, es3) (HA3.out.below (HB21.out.trans (Kx21_8.out.mono HB21.out.size))) HN3.out).mono ?_
            rintro e x21_9 ⟨u3, rfl, ho, hb⟩
            have U3x21_9 : Hid (BookAt x21_9 u3 (xs3, es3)) := ho.at
            clear ho
            have Zx21_9 : Hid (x21_8.heap.size ≤ x21_9.heap.size) := hb.size
            have Kx21_9 : Hid (Below w21.heap.size w21 x21_9) := Kx21_8.out.trans (hb.mono Kx21_8.out.size)
            have Nx21_9 : Hid (x21_9.heap[x21_2.heap.size]? = some (.cells #[.int .i64 0, .slice none 0 0, .slice none 0 0, .bool false, .slice none 0 0, .string ⟨#[]⟩, .string ⟨#[]⟩] 37 (0, 0))) := (hb.block _ (Array.getElem?_eq_some_iff.1 Nx21_8.out).1).trans Nx21_8.out
            have U0x21_9 : Hid (RingAt x21_9 u0 (ks0, ns0)) := U0x21_8.out.below hb
            have U2x21_9 : Hid (BookAt x21_9 u2 (xs2, es2)) := U2x21_8.out.below hb
            clear hb
            refine hK.out _ _ ?_ (fun hHeld => ?_)
            · exact HC9.out _ Kx21_9.out
            clear hK K
            try simp only [Act.put, List.setIfInBounds_toArray, List.set_cons_zero, List.set_cons_succ]
            refine wpAnyH_ready (rs := [7]) (by kernel_rfl) (by simp) ?_
            refine AllReadyH.cons rfl (fun K hK => ?_) AllReadyH.nil
            go_simp
            refine (HIM.out _ _ _ _ U0x21_9.out U2x21_9.out U3x21_9.out (TB0_0.out.below (HB21.out.trans (Kx21_9.out.mono HB21.out.size))) (TB1_0.out.below (HB21.out.trans (Kx21_9.out.mono HB21.out.size))) (TB2_0.out.below (HB21.out.trans (Kx21_9.out.mono HB21.out.size)))).mono ?_
            rintro e x21_10 ⟨e0b0, e0a1, e0n1, e0c1, e0a2, e0n2, e0c2, e0b3, e0a4, e0n4, e0c4, e0b5, e0b6, rfl, hg, hb⟩
            have Gx21_10 : Hid (RelOwn x21_9.heap.size x21_10.heap.size x21_10 (.agg #[.int .i64 e0b0, .slice e0a1 e0n1 e0c1, .slice e0a2 e0n2 e0c2, .bool e0b3, .slice e0a4 e0n4 e0c4, .string e0b5, .string e0b6]) L0) := hg
            clear hg
            have Zx21_10 : Hid (x21_9.heap.size ≤ x21_10.heap.size) := hb.size
            have Kx21_10 : Hid (Below w21.heap.size w21 x21_10) := Kx21_9.out.trans (hb.mono Kx21_9.out.size)
            have Nx21_10 : Hid (x21_10.heap[x21_2.heap.size]? = some (.cells #[.int .i64 0, .slice none 0 0, .slice none 0 0, .bool false, .slice none 0 0, .string ⟨#[]⟩, .string ⟨#[]⟩] 37 (0, 0))) := (hb.block _ (Array.getElem?_eq_some_iff.1 Nx21_9.out).1).trans Nx21_9.out
            have U0x21_10 : Hid (RingAt x21_10 u0 (ks0, ns0)) := U0x21_9.out.below hb
            have U2x21_10 : Hid (BookAt x21_10 u2 (xs2, es2)) := U2x21_9.out.below hb
            have U3x21_10 : Hid (BookAt x21_10 u3 (xs3, es3)) := U3x21_9.out.below hb
            clear hb
            refine hK.out _ _ ?_ (fun hHeld => ?_)
            · exact HC9.out _ Kx21_10.out
            clear hK K
            try simp only [Act.put, List.setIfInBounds_toArray, List.set_cons_zero, List.set_cons_succ]
            refine tk 8 119 (.tuple #[.agg #[.int .i64 e0b0, .slice e0a1 e0n1 e0c1, .slice e0a2 e0n2 e0c2, .bool e0b3, .slice e0a4 e0n4 e0c4, .string e0b5, .string e0b6], .bool L1]) ?_
            simp only [Act.put, List.setIfInBounds_toArray, List.set_cons_zero, List.set_cons_succ]
            refine tk 9 128 (.agg #[.int .i64 e0b0, .slice e0a1 e0n1 e0c1, .slice e0a2 e0n2 e0c2, .bool e0b3, .slice e0a4 e0n4 e0c4, .string e0b5, .string e0b6]) ?_
            simp only [Act.put, List.setIfInBounds_toArray, List.set_cons_zero, List.set_cons_succ]
            refine tk 10 129 (.bool L1) ?_
            simp only [Act.put, List.setIfInBounds_toArray, List.set_cons_zero, List.set_cons_succ]
            refine wpAnyH_ready (rs := [12]) (by kernel_rfl) (by simp) ?_
            refine AllReadyH.cons rfl (fun K hK => ?_) AllReadyH.nil
            refine step_store_row rfl 37 (.tmp 20) (.tmp 128) rfl (x21_2.heap.size) #[.int .i64 e0b0, .slice e0a1 e0n1 e0c1, .slice e0a2 e0n2 e0c2, .bool e0b3, .slice e0a4 e0n4 e0c4, .string e0b5, .string e0b6] rfl rfl 37 _ Nx21_10.out HS9.out rfl (by simp [Value.oneCell']) rfl ?_
            obtain ⟨V, hV⟩ : ∃ X, x21_10.setRow (x21_2.heap.size) #[.int .i64 e0b0, .slice e0a1 e0n1 e0c1, .slice e0a2 e0n2 e0c2, .bool e0b3, .slice e0a4 e0n4 e0c4, .string e0b5, .string e0b6] = X := ⟨_, rfl⟩
            have KV : Hid (Below w21.heap.size w21 V) := by show Below _ _ _; rw [← hV]; exact below_setRow Kx21_10.out HQ.out _
            have NV : Hid (V.heap[x21_2.heap.size]? = some (.cells #[.int .i64 e0b0, .slice e0a1 e0n1 e0c1, .slice e0a2 e0n2 e0c2, .bool e0b3, .slice e0a4 e0n4 e0c4, .string e0b5, .string e0b6] 37 (0, 0))) := by show _ = _; rw [← hV]; exact setRow_heap _ _ _ _ _ _ Nx21_10.out
            have zx21_0 := Zx21_0.out
            have zx21_1 := Zx21_1.out
            have zx21_2 := Zx21_2.out
            have zx21_8 := Zx21_8.out
            have zx21_9 := Zx21_9.out
            have zx21_10 := Zx21_10.out
            have hsV : V.heap.size = x21_10.heap.size := by rw [← hV]; simp
            have GV : Hid (RelOwn x21_9.heap.size x21_10.heap.size V (.agg #[.int .i64 e0b0, .slice e0a1 e0n1 e0c1, .slice e0a2 e0n2 e0c2, .bool e0b3, .slice e0a4 e0n4 e0c4, .string e0b5, .string e0b6]) L0) := by
              show RelOwn _ _ _ _ _
              rw [← hV]
              exact relOwn_setRow486 Gx21_10.out (q := x21_2.heap.size) (by omega) _
            rw [hV]
            clear hV
            refine hK.out _ _ ?_ (fun hHeld => ?_)
            · exact HC9.out _ KV.out
            clear hK K
            try simp only [Act.put, List.setIfInBounds_toArray, List.set_cons_zero, List.set_cons_succ]
            refine tk 13 21 (.bool L1) ?_
            simp only [Act.put, List.setIfInBounds_toArray, List.set_cons_zero, List.set_cons_succ]
            refine wpAnyH_done (by kernel_rfl) ?_ _
            go_wp2
            go_meet
            case rel =>
              exact ⟨_, _, _, _, _, _, _, _, _, _, _, _, _, _, _, _, rfl, rfl, NV.out, GV.out, by omega, by omega, by omega, by omega, KV.out, HQ.out⟩
        · skip
          go_simp
          have NA : Hid ((x21_1.alloc (.cells #[.int .i64 0, .slice none 0 0, .slice none 0 0, .bool false, .slice none 0 0, .string ⟨#[]⟩, .string ⟨#[]⟩] 37)).heap[x21_1.heap.size]? = some (.cells #[.int .i64 0, .slice none 0 0, .slice none 0 0, .bool false, .slice none 0 0, .string ⟨#[]⟩, .string ⟨#[]⟩] 37 (0, 0))) := heap_alloc_last _ _
          obtain ⟨x21_11, hx⟩ : ∃ X, x21_1.alloc (.cells #[.int .i64 0, .slice none 0 0, .slice none 0 0, .bool false, .slice none 0 0, .string ⟨#[]⟩, .string ⟨#[]⟩] 37) = X := ⟨_, rfl⟩
          have hb : Below x21_1.heap.size x21_1 x21_11 := by rw [← hx]; exact (Below.refl _ _).alloc (Nat.le_refl _) _
          have Zx21_11 : Hid (x21_1.heap.size < x21_11.heap.size) := by show _ < _; rw [← hx]; simp
          have Nx21_11 : Hid (x21_11.heap[x21_1.heap.size]? = some (.cells #[.int .i64 0, .slice none 0 0, .slice none 0 0, .bool false, .slice none 0 0, .string ⟨#[]⟩, .string ⟨#[]⟩] 37 (0, 0))) := by show _ = _; rw [← hx]; exact NA.out
          have HQ : Hid (w21.heap.size ≤ x21_1.heap.size) := Kx21_1.out.size
          rw [hx]
          clear hx NA
          have Kx21_11 : Hid (Below w21.heap.size w21 x21_11) := Kx21_1.out.trans (hb.mono Kx21_1.out.size)
          have U0x21_11 : Hid (RingAt x21_11 u0 (ks0, ns0)) := U0x21_1.out.below hb
          clear hb
          refine hK.out _ _ ?_ (fun hHeld => ?_)
          · exact HC9.out _ Kx21_11.out
          clear hK K
          try simp only [Act.put, List.setIfInBounds_toArray, List.set_cons_zero, List.set_cons_succ]
          refine wpAnyH_ready (rs := [4]) (by kernel_rfl) (by simp) ?_
          refine AllReadyH.cons rfl (fun K hK => ?_) AllReadyH.nil
          go_simp
          refine (toBook_u _ _ (xs2, es2) (HA2.out.below (HB21.out.trans (Kx21_11.out.mono HB21.out.size))) HN2.out).mono ?_
          rintro e x21_12 ⟨u2, rfl, ho, hb⟩
          have U2x21_12 : Hid (BookAt x21_12 u2 (xs2, es2)) := ho.at
          clear ho
          have Zx21_12 : Hid (x21_11.heap.size ≤ x21_12.heap.size) := hb.size
          have Kx21_12 : Hid (Below w21.heap.size w21 x21_12) := Kx21_11.out.trans (hb.mono Kx21_11.out.size)
          have Nx21_12 : Hid (x21_12.heap[x21_1.heap.size]? = some (.cells #[.int .i64 0, .slice none 0 0, .slice none 0 0, .bool false, .slice none 0 0, .string ⟨#[]⟩, .string ⟨#[]⟩] 37 (0, 0))) := (hb.block _ (Array.getElem?_eq_some_iff.1 Nx21_11.out).1).trans Nx21_11.out
          have U0x21_12 : Hid (RingAt x21_12 u0 (ks0, ns0)) := U0x21_11.out.below hb
          clear hb
          refine hK.out _ _ ?_ (fun hHeld => ?_)
          · exact HC9.out _ Kx21_12.out
          clear hK K
          try simp only [Act.put, List.setIfInBounds_toArray, List.set_cons_zero, List.set_cons_succ]
          refine wpAnyH_ready (rs := [6]) (by kernel_rfl) (by simp) ?_
          refine AllReadyH.cons rfl (fun K hK => ?_) AllReadyH.nil
          go_simp
          refine (toBook_u _ _ (xs3, es3) (HA3.out.below (HB21.out.trans (Kx21_12.out.mono HB21.out.size))) HN3.out).mono ?_
          rintro e x21_13 ⟨u3, rfl, ho, hb⟩
          have U3x21_13 : Hid (BookAt x21_13 u3 (xs3, es3)) := ho.at
          clear ho
          have Zx21_13 : Hid (x21_12.heap.size ≤ x21_13.heap.size) := hb.size
          have Kx21_13 : Hid (Below w21.heap.size w21 x21_13) := Kx21_12.out.trans (hb.mono Kx21_12.out.size)
          have Nx21_13 : Hid (x21_13.heap[x21_1.heap.size]? = some (.cells #[.int .i64 0, .slice none 0 0, .slice none 0 0, .bool false, .slice none 0 0, .string ⟨#[]⟩, .string ⟨#[]⟩] 37 (0, 0))) := (hb.block _ (Array.getElem?_eq_some_iff.1 Nx21_12.out).1).trans Nx21_12.out
          have U0x21_13 : Hid (RingAt x21_13 u0 (ks0, ns0)) := U0x21_12.out.below hb
          have U2x21_13 : Hid (BookAt x21_13 u2 (xs2, es2)) := U2x21_12.out.below hb
          clear hb
          refine hK.out _ _ ?_ (fun hHeld => ?_)
          · exact HC9.out _ Kx21_13.out
          clear hK K
          try simp only [Act.put, List.setIfInBounds_toArray, List.set_cons_zero, List.set_cons_succ]
          refine wpAnyH_ready (rs := [7]) (by kernel_rfl) (by simp) ?_
          refine AllReadyH.cons rfl (fun K hK => ?_) AllReadyH.nil
          go_simp
          refine (HIM.out _ _ _ _ U0x21_13.out U2x21_13.out U3x21_13.out (TB0_0.out.below (HB21.out.trans (Kx21_13.out.mono HB21.out.size))) (TB1_0.out.below (HB21.out.trans (Kx21_13.out.mono HB21.out.size))) (TB2_0.out.below (HB21.out.trans (Kx21_13.out.mono HB21.out.size)))).mono ?_
          rintro e x21_14 ⟨e0b0, e0a1, e0n1, e0c1, e0a2, e0n2, e0c2, e0b3, e0a4, e0n4, e0c4, e0b5, e0b6, rfl, hg, hb⟩
          have Gx21_14 : Hid (RelOwn x21_13.heap.size x21_14.heap.size x21_14 (.agg #[.int .i64 e0b0, .slice e0a1 e0n1 e0c1, .slice e0a2 e0n2 e0c2, .bool e0b3, .slice e0a4 e0n4 e0c4, .string e0b5, .string e0b6]) L0) := hg
          clear hg
          have Zx21_14 : Hid (x21_13.heap.size ≤ x21_14.heap.size) := hb.size
          have Kx21_14 : Hid (Below w21.heap.size w21 x21_14) := Kx21_13.out.trans (hb.mono Kx21_13.out.size)
          have Nx21_14 : Hid (x21_14.heap[x21_1.heap.size]? = some (.cells #[.int .i64 0, .slice none 0 0, .slice none 0 0, .bool false, .slice none 0 0, .string ⟨#[]⟩, .string ⟨#[]⟩] 37 (0, 0))) := (hb.block _ (Array.getElem?_eq_some_iff.1 Nx21_13.out).1).trans Nx21_13.out
          have U0x21_14 : Hid (RingAt x21_14 u0 (ks0, ns0)) := U0x21_13.out.below hb
          have U2x21_14 : Hid (BookAt x21_14 u2 (xs2, es2)) := U2x21_13.out.below hb
          have U3x21_14 : Hid (BookAt x21_14 u3 (xs3, es3)) := U3x21_13.out.below hb
          clear hb
          refine hK.out _ _ ?_ (fun hHeld => ?_)
          · exact HC9.out _ Kx21_14.out
          clear hK K
          try simp only [Act.put, List.setIfInBounds_toArray, List.set_cons_zero, List.set_cons_succ]
          refine tk 8 119 (.tuple #[.agg #[.int .i64 e0b0, .slice e0a1 e0n1 e0c1, .slice e0a2 e0n2 e0c2, .bool e0b3, .slice e0a4 e0n4 e0c4, .string e0b5, .string e0b6], .bool L1]) ?_
          simp only [Act.put, List.setIfInBounds_toArray, List.set_cons_zero, List.set_cons_succ]
          refine tk 9 128 (.agg #[.int .i64 e0b0, .slice e0a1 e0n1 e0c1, .slice e0a2 e0n2 e0c2, .bool e0b3, .slice e0a4 e0n4 e0c4, .string e0b5, .string e0b6]) ?_
          simp only [Act.put, List.setIfInBounds_toArray, List.set_cons_zero, List.set_cons_succ]
          refine tk 10 129 (.bool L1) ?_
          simp only [Act.put, List.setIfInBounds_toArray, List.set_cons_zero, List.set_cons_succ]
          refine wpAnyH_ready (rs := [12]) (by kernel_rfl) (by simp) ?_
          refine AllReadyH.cons rfl (fun K hK => ?_) AllReadyH.nil
          refine step_store_row rfl 37 (.tmp 20) (.tmp 128) rfl (x21_1.heap.size) #[.int .i64 e0b0, .slice e0a1 e0n1 e0c1, .slice e0a2 e0n2 e0c2, .bool e0b3, .slice e0a4 e0n4 e0c4, .string e0b5, .string e0b6] rfl rfl 37 _ Nx21_14.out HS9.out rfl (by simp [Value.oneCell']) rfl ?_
          obtain ⟨V, hV⟩ : ∃ X, x21_14.setRow (x21_1.heap.size) #[.int .i64 e0b0, .slice e0a1 e0n1 e0c1, .slice e0a2 e0n2 e0c2, .bool e0b3, .slice e0a4 e0n4 e0c4, .string e0b5, .string e0b6] = X := ⟨_, rfl⟩
          have KV : Hid (Below w21.heap.size w21 V) := by show Below _ _ _; rw [← hV]; exact below_setRow Kx21_14.out HQ.out _
          have NV : Hid (V.heap[x21_1.heap.size]? = some (.cells #[.int .i64 e0b0, .slice e0a1 e0n1 e0c1, .slice e0a2 e0n2 e0c2, .bool e0b3, .slice e0a4 e0n4 e0c4, .string e0b5, .string e0b6] 37 (0, 0))) := by show _ = _; rw [← hV]; exact setRow_heap _ _ _ _ _ _ Nx21_14.out
          have zx21_0 := Zx21_0.out
          have zx21_1 := Zx21_1.out
          have zx21_11 := Zx21_11.out
          have zx21_12 := Zx21_12.out
          have zx21_13 := Zx21_13.out
          have zx21_14 := Zx21_14.out
          have hsV : V.heap.size = x21_14.heap.size := by rw [← hV]; simp
          have GV : Hid (RelOwn x21_13.heap.size x21_14.heap.size V (.agg #[.int .i64 e0b0, .slice e0a1 e0n1 e0c1, .slice e0a2 e0n2 e0c2, .bool e0b3, .slice e0a4 e0n4 e0c4, .string e0b5, .string e0b6]) L0) := by
            show RelOwn _ _ _ _ _
            rw [← hV]
            exact relOwn_setRow486 Gx21_14.out (q := x21_1.heap.size) (by omega) _
          rw [hV]
          clear hV
          refine hK.out _ _ ?_ (fun hHeld => ?_)
          · exact HC9.out _ KV.out
          clear hK K
          try simp only [Act.put, List.setIfInBounds_toArray, List.set_cons_zero, List.set_cons_succ]
          refine tk 13 21 (.bool L1) ?_
          simp only [Act.put, List.setIfInBounds_toArray, List.set_cons_zero, List.set_cons_succ]
          refine wpAnyH_done (by kernel_rfl) ?_ _
          go_wp2
          go_meet
          case rel =>
            exact ⟨_, _, _, _, _, _, _, _, _, _, _, _, _, _, _, _, rfl, rfl, NV.out, GV.out, by omega, by omega, by omega, by omega, KV.out, HQ.out⟩
      · skip
        go_simp
        have NA : Hid ((x21_0.alloc (.cells #[.int .i64 0, .slice none 0 0, .slice none 0 0, .bool false, .slice none 0 0, .string ⟨#[]⟩, .string ⟨#[]⟩] 37)).heap[x21_0.heap.size]? = some (.cells #[.int .i64 0, .slice none 0 0, .slice none 0 0, .bool false, .slice none 0 0, .string ⟨#[]⟩, .string ⟨#[]⟩] 37 (0, 0))) := heap_alloc_last _ _
        obtain ⟨x21_15, hx⟩ : ∃ X, x21_0.alloc (.cells #[.int .i64 0, .slice none 0 0, .slice none 0 0, .bool false, .slice none 0 0, .string ⟨#[]⟩, .string ⟨#[]⟩] 37) = X := ⟨_, rfl⟩
        have hb : Below x21_0.heap.size x21_0 x21_15 := by rw [← hx]; exact (Below.refl _ _).alloc (Nat.le_refl _) _
        have Zx21_15 : Hid (x21_0.heap.size < x21_15.heap.size) := by show _ < _; rw [← hx]; simp
        have Nx21_15 : Hid (x21_15.heap[x21_0.heap.size]? = some (.cells #[.int .i64 0, .slice none 0 0, .slice none 0 0, .bool false, .slice none 0 0, .string ⟨#[]⟩, .string ⟨#[]⟩] 37 (0, 0))) := by show _ = _; rw [← hx]; exact NA.out
        have HQ : Hid (w21.heap.size ≤ x21_0.heap.size) := Kx21_0.out.size
        rw [hx]
        clear hx NA
        have Kx21_15 : Hid (Below w21.heap.size w21 x21_15) := Kx21_0.out.trans (hb.mono Kx21_0.out.size)
        clear hb
        refine hK.out _ _ ?_ (fun hHeld => ?_)
        · exact HC9.out _ Kx21_15.out
        clear hK K
        try simp only [Act.put, List.setIfInBounds_toArray, List.set_cons_zero, List.set_cons_succ]
        refine wpAnyH_ready (rs := [1]) (by kernel_rfl) (by simp) ?_
        refine AllReadyH.cons rfl (fun K hK => ?_) AllReadyH.nil
        go_simp
        refine (toRing_u _ _ (ks0, ns0) (HA0.out.below (HB21.out.trans (Kx21_15.out.mono HB21.out.size))) HN0.out).mono ?_
        rintro e x21_16 ⟨u0, rfl, ho, hb⟩
        have U0x21_16 : Hid (RingAt x21_16 u0 (ks0, ns0)) := ho.at
        clear ho
        have Zx21_16 : Hid (x21_15.heap.size ≤ x21_16.heap.size) := hb.size
        have Kx21_16 : Hid (Below w21.heap.size w21 x21_16) := Kx21_15.out.trans (hb.mono Kx21_15.out.size)
        have Nx21_16 : Hid (x21_16.heap[x21_0.heap.size]? = some (.cells #[.int .i64 0, .slice none 0 0, .slice none 0 0, .bool false, .slice none 0 0, .string ⟨#[]⟩, .string ⟨#[]⟩] 37 (0, 0))) := (hb.block _ (Array.getElem?_eq_some_iff.1 Nx21_15.out).1).trans Nx21_15.out
        clear hb
        refine hK.out _ _ ?_ (fun hHeld => ?_)
        · exact HC9.out _ Kx21_16.out
        clear hK K
        try simp only [Act.put, List.setIfInBounds_toArray, List.set_cons_zero, List.set_cons_succ]
        refine wpAnyH_ready (rs := [4]) (by kernel_rfl) (by simp) ?_
        refine AllReadyH.cons rfl (fun K hK => ?_) AllReadyH.nil
        go_simp
        refine (toBook_u _ _ (xs2, es2) (HA2.out.below (HB21.out.trans (Kx21_16.out.mono HB21.out.size))) HN2.out).mono ?_
        rintro e x21_17 ⟨u2, rfl, ho, hb⟩
        have U2x21_17 : Hid (BookAt x21_17 u2 (xs2, es2)) := ho.at
        clear ho
        have Zx21_17 : Hid (x21_16.heap.size ≤ x21_17.heap.size) := hb.size
        have Kx21_17 : Hid (Below w21.heap.size w21 x21_17) := Kx21_16.out.trans (hb.mono Kx21_16.out.size)
        have Nx21_17 : Hid (x21_17.heap[x21_0.heap.size]? = some (.cells #[.int .i64 0, .slice none 0 0, .slice none 0 0, .bool false, .slice none 0 0, .string ⟨#[]⟩, .string ⟨#[]⟩] 37 (0, 0))) := (hb.block _ (Array.getElem?_eq_some_iff.1 Nx21_16.out).1).trans Nx21_16.out
        have U0x21_17 : Hid (RingAt x21_17 u0 (ks0, ns0)) := U0x21_16.out.below hb
        clear hb
        refine hK.out _ _ ?_ (fun hHeld => ?_)
        · exact HC9.out _ Kx21_17.out
        clear hK K
        try simp only [Act.put, List.setIfInBounds_toArray, List.set_cons_zero, List.set_cons_succ]
        refine wpAnyH_ready (rs := [6]) (by kernel_rfl) (by simp) ?_
        refine AllReadyH.cons rfl (fun K hK => ?_) AllReadyH.nil
        go_simp
        refine (toBook_u _ _ (xs3, es3) (HA3.out.below (HB21.out.trans (Kx21_17.out.mono HB21.out.size))) HN3.out).mono ?_
        rintro e x21_18 ⟨u3, rfl, ho, hb⟩
        have U3x21_18 : Hid (BookAt x21_18 u3 (xs3, es3)) := ho.at
        clear ho
        have Zx21_18 : Hid (x21_17.heap.size ≤ x21_18.heap.size) := hb.size
        have Kx21_18 : Hid (Below w21.heap.size w21 x21_18) := Kx21_17.out.trans (hb.mono Kx21_17.out.size)
        have Nx21_18 : Hid (x21_18.heap[x21_0.heap.size]? = some (.cells #[.int .i64 0, .slice none 0 0, .slice none 0 0, .bool false, .slice none 0 0, .string ⟨#[]⟩, .string ⟨#[]⟩] 37 (0, 0))) := (hb.block _ (Array.getElem?_eq_some_iff.1 Nx21_17.out).1).trans Nx21_17.out
        have U0x21_18 : Hid (RingAt x21_18 u0 (ks0, ns0)) := U0x21_17.out.below hb
        have U2x21_18 : Hid (BookAt x21_18 u2 (xs2, es2)) := U2x21_17.out.below hb
        clear hb
        refine hK.out _ _ ?_ (fun hHeld => ?_)
        · exact HC9.out _ Kx21_18.out
        clear hK K
        try simp only [Act.put, List.setIfInBounds_toArray, List.set_cons_zero, List.set_cons_succ]
        refine wpAnyH_ready (rs := [7]) (by kernel_rfl) (by simp) ?_
        refine AllReadyH.cons rfl (fun K hK => ?_) AllReadyH.nil
        go_simp
        refine (HIM.out _ _ _ _ U0x21_18.out U2x21_18.out U3x21_18.out (TB0_0.out.below (HB21.out.trans (Kx21_18.out.mono HB21.out.size))) (TB1_0.out.below (HB21.out.trans (Kx21_18.out.mono HB21.out.size))) (TB2_0.out.below (HB21.out.trans (Kx21_18.out.mono HB21.out.size)))).mono ?_
        rintro e x21_19 ⟨e0b0, e0a1, e0n1, e0c1, e0a2, e0n2, e0c2, e0b3, e0a4, e0n4, e0c4, e0b5, e0b6, rfl, hg, hb⟩
        have Gx21_19 : Hid (RelOwn x21_18.heap.size x21_19.heap.size x21_19 (.agg #[.int .i64 e0b0, .slice e0a1 e0n1 e0c1, .slice e0a2 e0n2 e0c2, .bool e0b3, .slice e0a4 e0n4 e0c4, .string e0b5, .string e0b6]) L0) := hg
        clear hg
        have Zx21_19 : Hid (x21_18.heap.size ≤ x21_19.heap.size) := hb.size
        have Kx21_19 : Hid (Below w21.heap.size w21 x21_19) := Kx21_18.out.trans (hb.mono Kx21_18.out.size)
        have Nx21_19 : Hid (x21_19.heap[x21_0.heap.size]? = some (.cells #[.int .i64 0, .slice none 0 0, .slice none 0 0, .bool false, .slice none 0 0, .string ⟨#[]⟩, .string ⟨#[]⟩] 37 (0, 0))) := (hb.block _ (Array.getElem?_eq_some_iff.1 Nx21_18.out).1).trans Nx21_18.out
        have U0x21_19 : Hid (RingAt x21_19 u0 (ks0, ns0)) := U0x21_18.out.below hb
        have U2x21_19 : Hid (BookAt x21_19 u2 (xs2, es2)) := U2x21_18.out.below hb
        have U3x21_19 : Hid (BookAt x21_19 u3 (xs3, es3)) := U3x21_18.out.below hb
        clear hb
        refine hK.out _ _ ?_ (fun hHeld => ?_)
        · exact HC9.out _ Kx21_19.out
        clear hK K
        try simp only [Act.put, List.setIfInBounds_toArray, List.set_cons_zero, List.set_cons_succ]
        refine tk 8 119 (.tuple #[.agg #[.int .i64 e0b0, .slice e0a1 e0n1 e0c1, .slice e0a2 e0n2 e0c2, .bool e0b3, .slice e0a4 e0n4 e0c4, .string e0b5, .string e0b6], .bool L1]) ?_
        simp only [Act.put, List.setIfInBounds_toArray, List.set_cons_zero, List.set_cons_succ]
        refine tk 9 128 (.agg #[.int .i64 e0b0, .slice e0a1 e0n1 e0c1, .slice e0a2 e0n2 e0c2, .bool e0b3, .slice e0a4 e0n4 e0c4, .string e0b5, .string e0b6]) ?_
        simp only [Act.put, List.setIfInBounds_toArray, List.set_cons_zero, List.set_cons_succ]
        refine tk 10 129 (.bool L1) ?_
        simp only [Act.put, List.setIfInBounds_toArray, List.set_cons_zero, List.set_cons_succ]
        refine wpAnyH_ready (rs := [12]) (by kernel_rfl) (by simp) ?_
        refine AllReadyH.cons rfl (fun K hK => ?_) AllReadyH.nil
        refine step_store_row rfl 37 (.tmp 20) (.tmp 128) rfl (x21_0.heap.size) #[.int .i64 e0b0, .slice e0a1 e0n1 e0c1, .slice e0a2 e0n2 e0c2, .bool e0b3, .slice e0a4 e0n4 e0c4, .string e0b5, .string e0b6] rfl rfl 37 _ Nx21_19.out HS9.out rfl (by simp [Value.oneCell']) rfl ?_
        obtain ⟨V, hV⟩ : ∃ X, x21_19.setRow (x21_0.heap.size) #[.int .i64 e0b0, .slice e0a1 e0n1 e0c1, .slice e0a2 e0n2 e0c2, .bool e0b3, .slice e0a4 e0n4 e0c4, .string e0b5, .string e0b6] = X := ⟨_, rfl⟩
        have KV : Hid (Below w21.heap.size w21 V) := by show Below _ _ _; rw [← hV]; exact below_setRow Kx21_19.out HQ.out _
        have NV : Hid (V.heap[x21_0.heap.size]? = some (.cells #[.int .i64 e0b0, .slice e0a1 e0n1 e0c1, .slice e0a2 e0n2 e0c2, .bool e0b3, .slice e0a4 e0n4 e0c4, .string e0b5, .string e0b6] 37 (0, 0))) := by show _ = _; rw [← hV]; exact setRow_heap _ _ _ _ _ _ Nx21_19.out
        have zx21_0 := Zx21_0.out
        have zx21_15 := Zx21_15.out
        have zx21_16 := Zx21_16.out
        have zx21_17 := Zx21_17.out
        have zx21_18 := Zx21_18.out
        have zx21_19 := Zx21_19.out
        have hsV : V.heap.size = x21_19.heap.size := by rw [← hV]; simp
        have GV : Hid (RelOwn x21_18.heap.size x21_19.heap.size V (.agg #[.int .i64 e0b0, .slice e0a1 e0n1 e0c1, .slice e0a2 e0n2 e0c2, .bool e0b3, .slice e0a4 e0n4 e0c4, .string e0b5, .string e0b6]) L0) := by
          show RelOwn _ _ _ _ _
          rw [← hV]
          exact relOwn_setRow486 Gx21_19.out (q := x21_0.heap.size) (by omega) _
        rw [hV]
        clear hV
        refine hK.out _ _ ?_ (fun hHeld => ?_)
        · exact HC9.out _ KV.out
        clear hK K
        try simp only [Act.put, List.setIfInBounds_toArray, List.set_cons_zero, List.set_cons_succ]
        refine tk 13 21 (.bool L1) ?_
        simp only [Act.put, List.setIfInBounds_toArray, List.set_cons_zero, List.set_cons_succ]
        refine wpAnyH_done (by kernel_rfl) ?_ _
        go_wp2
        go_meet
        case rel =>
          exact ⟨_, _, _, _, _, _, _, _, _, _, _, _, _, _, _, _, rfl, rfl, NV.out, GV.out, by omega, by omega, by omega, by omega, KV.out, HQ.out⟩
    case rest =>
      obtain ⟨w22, hw22⟩ : ∃ x, x = wc := ⟨_, rfl⟩
      subst hw22
      obtain ⟨B22, lo22, hi22, e0b0, e0a1, e0n1, e0c1, e0a2, e0n2, e0c2, e0b3, e0a4, e0n4, e0c4, e0b5, e0b6, hp22, hv22_0, hr22, ha22, hl122, hl222, hl322, hl422, hh22, hl22⟩ := hcut
      subst hp22
      subst hv22_0
      have HB22 : Hid (Below w.heap.size w w22) := HB21.out.trans (hh22.mono HB21.out.size)
      have BC22 : Hid (Below w4.heap.size w4 w22) := BC21.out.trans (hh22.mono BC21.out.size)
      have c22_0_0 := cl hh22 hz21_0 c21_0_0
      have c22_0_1 := cl hh22 hz21_0 c21_0_1
      have hz22_0 : (w.heap.size) < w22.heap.size := Nat.lt_of_lt_of_le hz21_0 hh22.size
      have c22_1_0 := cl hh22 hz21_1 c21_1_0
      have c22_1_1 := cl hh22 hz21_1 c21_1_1
      have hz22_1 : (w.heap.size + 1) < w22.heap.size := Nat.lt_of_lt_of_le hz21_1 hh22.size
      have c22_2_0 := cl hh22 hz21_2 c21_2_0
      have c22_2_1 := cl hh22 hz21_2 c21_2_1
      have hz22_2 : (w.heap.size + 1 + 1) < w22.heap.size := Nat.lt_of_lt_of_le hz21_2 hh22.size
      have c22_3_0 := cl hh22 hz21_3 c21_3_0
      have c22_3_1 := cl hh22 hz21_3 c21_3_1
      have c22_3_2 := cl hh22 hz21_3 c21_3_2
      have c22_3_3 := cl hh22 hz21_3 c21_3_3
      have c22_3_4 := cl hh22 hz21_3 c21_3_4
      have c22_3_5 := cl hh22 hz21_3 c21_3_5
      have c22_3_6 := cl hh22 hz21_3 c21_3_6
      have hz22_3 : B4 < w22.heap.size := Nat.lt_of_lt_of_le hz21_3 hh22.size
      have c22_4_0 := cl hh22 hz21_4 c21_4_0
      have c22_4_1 := cl hh22 hz21_4 c21_4_1
      have hz22_4 : (w5.heap.size) < w22.heap.size := Nat.lt_of_lt_of_le hz21_4 hh22.size
      have c22_5_0 := cl hh22 hz21_5 c21_5_0
      have c22_5_1 := cl hh22 hz21_5 c21_5_1
      have hz22_5 : (w6.heap.size) < w22.heap.size := Nat.lt_of_lt_of_le hz21_5 hh22.size
      have c22_6_0 := cl hh22 hz21_6 c21_6_0
      have c22_6_1 := cl hh22 hz21_6 c21_6_1
      have hz22_6 : (w7.heap.size) < w22.heap.size := Nat.lt_of_lt_of_le hz21_6 hh22.size
      have c22_7_0 := cl hh22 hz21_7 c21_7_0
      have c22_7_1 := cl hh22 hz21_7 c21_7_1
      have c22_7_2 := cl hh22 hz21_7 c21_7_2
      have c22_7_3 := cl hh22 hz21_7 c21_7_3
      have c22_7_4 := cl hh22 hz21_7 c21_7_4
      have c22_7_5 := cl hh22 hz21_7 c21_7_5
      have c22_7_6 := cl hh22 hz21_7 c21_7_6
      have hz22_7 : (w8.heap.size) < w22.heap.size := Nat.lt_of_lt_of_le hz21_7 hh22.size
      have Q_22 : Hid (RelOwn (w7.heap.size + 1) w8.heap.size w22 (.agg #[.int .i64 g0b0, .slice g0a1 g0n1 g0c1, .slice g0a2 g0n2 g0c2, .bool g0b3, .slice g0a4 g0n4 g0c4, .string g0b5, .string g0b6]) (relMk 1 L0)) := Q_21.out.below hh22
      have c22_8_0 : w22.cell? ⟨B22, 0, none⟩ = some (.int .i64 e0b0) := by rw [cell_of_row _ _ 0 _ _ _ hr22]; rfl
      have c22_8_1 : w22.cell? ⟨B22, 1, none⟩ = some (.slice e0a1 e0n1 e0c1) := by rw [cell_of_row _ _ 1 _ _ _ hr22]; rfl
      have c22_8_2 : w22.cell? ⟨B22, 2, none⟩ = some (.slice e0a2 e0n2 e0c2) := by rw [cell_of_row _ _ 2 _ _ _ hr22]; rfl
      have c22_8_3 : w22.cell? ⟨B22, 3, none⟩ = some (.bool e0b3) := by rw [cell_of_row _ _ 3 _ _ _ hr22]; rfl
      have c22_8_4 : w22.cell? ⟨B22, 4, none⟩ = some (.slice e0a4 e0n4 e0c4) := by rw [cell_of_row _ _ 4 _ _ _ hr22]; rfl
      have c22_8_5 : w22.cell? ⟨B22, 5, none⟩ = some (.string e0b5) := by rw [cell_of_row _ _ 5 _ _ _ hr22]; rfl
      have c22_8_6 : w22.cell? ⟨B22, 6, none⟩ = some (.string e0b6) := by rw [cell_of_row _ _ 6 _ _ _ hr22]; rfl
      have hz22_8 : B22 < w22.heap.size := (Array.getElem?_eq_some_iff.1 hr22).1
      have HZ22 : Hid (w21.heap.size ≤ w22.heap.size ∧ w21.heap.size ≤ B22 ∧ B22 < w22.heap.size ∧ w21.heap.size ≤ lo22 ∧ lo22 ≤ hi22 ∧ hi22 ≤ w22.heap.size ∧ (B22 < lo22 ∨ hi22 ≤ B22)) := ⟨hh22.size, hl22, hz22_8, hl122, hl222, hl322, hl422⟩
      have HW_22 : Hid (RelAt w22 (.agg #[.int .i64 e0b0, .slice e0a1 e0n1 e0c1, .slice e0a2 e0n2 e0c2, .bool e0b3, .slice e0a4 e0n4 e0c4, .string e0b5, .string e0b6]) L0) := ha22.at
      clear c21_0_0 c21_0_1 hz21_0 c21_1_0 c21_1_1 hz21_1 c21_2_0 c21_2_1 hz21_2 c21_3_0 c21_3_1 c21_3_2 c21_3_3 c21_3_4 c21_3_5 c21_3_6 hz21_3 c21_4_0 c21_4_1 hz21_4 c21_5_0 c21_5_1 hz21_5 c21_6_0 c21_6_1 hz21_6 c21_7_0 c21_7_1 c21_7_2 c21_7_3 c21_7_4 c21_7_5 c21_7_6 hz21_7 Q_21 hh22 hr22 ha22 hl22 hl122 hl222 hl322 hl422
      go_wp2_with fail
      refine (eqRel_u _ _ _ L0 HW_22.out (HU.out.below BC22.out)).mono ?_
      rintro e w23 ⟨rfl, hb23⟩
      have hh23 : Below w22.heap.size w22 w23 := hb23
      have HB23 : Hid (Below w.heap.size w w23) := HB22.out.trans (hh23.mono HB22.out.size)
      have BC23 : Hid (Below w4.heap.size w4 w23) := BC22.out.trans (hh23.mono BC22.out.size)
      have c23_0_0 := cl hh23 hz22_0 c22_0_0
      have c23_0_1 := cl hh23 hz22_0 c22_0_1
      have hz23_0 : (w.heap.size) < w23.heap.size := Nat.lt_of_lt_of_le hz22_0 hh23.size
      have c23_1_0 := cl hh23 hz22_1 c22_1_0
      have c23_1_1 := cl hh23 hz22_1 c22_1_1
      have hz23_1 : (w.heap.size + 1) < w23.heap.size := Nat.lt_of_lt_of_le hz22_1 hh23.size
      have c23_2_0 := cl hh23 hz22_2 c22_2_0
      have c23_2_1 := cl hh23 hz22_2 c22_2_1
      have hz23_2 : (w.heap.size + 1 + 1) < w23.heap.size := Nat.lt_of_lt_of_le hz22_2 hh23.size
      have c23_3_0 := cl hh23 hz22_3 c22_3_0
      have c23_3_1 := cl hh23 hz22_3 c22_3_1
      have c23_3_2 := cl hh23 hz22_3 c22_3_2
      have c23_3_3 := cl hh23 hz22_3 c22_3_3
      have c23_3_4 := cl hh23 hz22_3 c22_3_4
      have c23_3_5 := cl hh23 hz22_3 c22_3_5
      have c23_3_6 := cl hh23 hz22_3 c22_3_6
      have hz23_3 : B4 < w23.heap.size := Nat.lt_of_lt_of_le hz22_3 hh23.size
      have c23_4_0 := cl hh23 hz22_4 c22_4_0
      have c23_4_1 := cl hh23 hz22_4 c22_4_1
      have hz23_4 : (w5.heap.size) < w23.heap.size := Nat.lt_of_lt_of_le hz22_4 hh23.size
      have c23_5_0 := cl hh23 hz22_5 c22_5_0
      have c23_5_1 := cl hh23 hz22_5 c22_5_1
      have hz23_5 : (w6.heap.size) < w23.heap.size := Nat.lt_of_lt_of_le hz22_5 hh23.size
      have c23_6_0 := cl hh23 hz22_6 c22_6_0
      have c23_6_1 := cl hh23 hz22_6 c22_6_1
      have hz23_6 : (w7.heap.size) < w23.heap.size := Nat.lt_of_lt_of_le hz22_6 hh23.size
      have c23_7_0 := cl hh23 hz22_7 c22_7_0
      have c23_7_1 := cl hh23 hz22_7 c22_7_1
      have c23_7_2 := cl hh23 hz22_7 c22_7_2
      have c23_7_3 := cl hh23 hz22_7 c22_7_3
      have c23_7_4 := cl hh23 hz22_7 c22_7_4
      have c23_7_5 := cl hh23 hz22_7 c22_7_5
      have c23_7_6 := cl hh23 hz22_7 c22_7_6
      have hz23_7 : (w8.heap.size) < w23.heap.size := Nat.lt_of_lt_of_le hz22_7 hh23.size
      have c23_8_0 := cl hh23 hz22_8 c22_8_0
      have c23_8_1 := cl hh23 hz22_8 c22_8_1
      have c23_8_2 := cl hh23 hz22_8 c22_8_2
      have c23_8_3 := cl hh23 hz22_8 c22_8_3
      have c23_8_4 := cl hh23 hz22_8 c22_8_4
      have c23_8_5 := cl hh23 hz22_8 c22_8_5
      have c23_8_6 := cl hh23 hz22_8 c22_8_6
      have hz23_8 : B22 < w23.heap.size := Nat.lt_of_lt_of_le hz22_8 hh23.size
      have Q_23 : Hid (RelOwn (w7.heap.size + 1) w8.heap.size w23 (.agg #[.int .i64 g0b0, .slice g0a1 g0n1 g0c1, .slice g0a2 g0n2 g0c2, .bool g0b3, .slice g0a4 g0n4 g0c4, .string g0b5, .string g0b6]) (relMk 1 L0)) := Q_22.out.below hh23
      have HW_23 : Hid (RelAt w23 (.agg #[.int .i64 e0b0, .slice e0a1 e0n1 e0c1, .slice e0a2 e0n2 e0c2, .bool e0b3, .slice e0a4 e0n4 e0c4, .string e0b5, .string e0b6]) L0) := HW_22.out.below hh23
      have HZ23 : Hid (w22.heap.size ≤ w23.heap.size) := hh23.size
      clear c22_0_0 c22_0_1 hz22_0 c22_1_0 c22_1_1 hz22_1 c22_2_0 c22_2_1 hz22_2 c22_3_0 c22_3_1 c22_3_2 c22_3_3 c22_3_4 c22_3_5 c22_3_6 hz22_3 c22_4_0 c22_4_1 hz22_4 c22_5_0 c22_5_1 hz22_5 c22_6_0 c22_6_1 hz22_6 c22_7_0 c22_7_1 c22_7_2 c22_7_3 c22_7_4 c22_7_5 c22_7_6 hz22_7 c22_8_0 c22_8_1 c22_8_2 c22_8_3 c22_8_4 c22_8_5 c22_8_6 hz22_8 Q_22 HW_22 hb23 hh23
      go_wp2_with fail
      refine (cK (heldRel_u _ _ 1 L0 (Q_23.out).at HSM.out (by omega)) HKM.out).mono ?_
      rintro e w24 ⟨rfl, hb24⟩
      have hh24 : Below w23.heap.size w23 w24 := hb24
      have HB24 : Hid (Below w.heap.size w w24) := HB23.out.trans (hh24.mono HB23.out.size)
      have BC24 : Hid (Below w4.heap.size w4 w24) := BC23.out.trans (hh24.mono BC23.out.size)
      have c24_0_0 := cl hh24 hz23_0 c23_0_0
      have c24_0_1 := cl hh24 hz23_0 c23_0_1
      have hz24_0 : (w.heap.size) < w24.heap.size := Nat.lt_of_lt_of_le hz23_0 hh24.size
      have c24_1_0 := cl hh24 hz23_1 c23_1_0
      have c24_1_1 := cl hh24 hz23_1 c23_1_1
      have hz24_1 : (w.heap.size + 1) < w24.heap.size := Nat.lt_of_lt_of_le hz23_1 hh24.size
      have c24_2_0 := cl hh24 hz23_2 c23_2_0
      have c24_2_1 := cl hh24 hz23_2 c23_2_1
      have hz24_2 : (w.heap.size + 1 + 1) < w24.heap.size := Nat.lt_of_lt_of_le hz23_2 hh24.size
      have c24_3_0 := cl hh24 hz23_3 c23_3_0
      have c24_3_1 := cl hh24 hz23_3 c23_3_1
      have c24_3_2 := cl hh24 hz23_3 c23_3_2
      have c24_3_3 := cl hh24 hz23_3 c23_3_3
      have c24_3_4 := cl hh24 hz23_3 c23_3_4
      have c24_3_5 := cl hh24 hz23_3 c23_3_5
      have c24_3_6 := cl hh24 hz23_3 c23_3_6
      have hz24_3 : B4 < w24.heap.size := Nat.lt_of_lt_of_le hz23_3 hh24.size
      have c24_4_0 := cl hh24 hz23_4 c23_4_0
      have c24_4_1 := cl hh24 hz23_4 c23_4_1
      have hz24_4 : (w5.heap.size) < w24.heap.size := Nat.lt_of_lt_of_le hz23_4 hh24.size
      have c24_5_0 := cl hh24 hz23_5 c23_5_0
      have c24_5_1 := cl hh24 hz23_5 c23_5_1
      have hz24_5 : (w6.heap.size) < w24.heap.size := Nat.lt_of_lt_of_le hz23_5 hh24.size
      have c24_6_0 := cl hh24 hz23_6 c23_6_0
      have c24_6_1 := cl hh24 hz23_6 c23_6_1
      have hz24_6 : (w7.heap.size) < w24.heap.size := Nat.lt_of_lt_of_le hz23_6 hh24.size
      have c24_7_0 := cl hh24 hz23_7 c23_7_0
      have c24_7_1 := cl hh24 hz23_7 c23_7_1
      have c24_7_2 := cl hh24 hz23_7 c23_7_2
      have c24_7_3 := cl hh24 hz23_7 c23_7_3
      have c24_7_4 := cl hh24 hz23_7 c23_7_4
      have c24_7_5 := cl hh24 hz23_7 c23_7_5
      have c24_7_6 := cl hh24 hz23_7 c23_7_6
      have hz24_7 : (w8.heap.size) < w24.heap.size := Nat.lt_of_lt_of_le hz23_7 hh24.size
      have c24_8_0 := cl hh24 hz23_8 c23_8_0
      have c24_8_1 := cl hh24 hz23_8 c23_8_1
      have c24_8_2 := cl hh24 hz23_8 c23_8_2
      have c24_8_3 := cl hh24 hz23_8 c23_8_3
      have c24_8_4 := cl hh24 hz23_8 c23_8_4
      have c24_8_5 := cl hh24 hz23_8 c23_8_5
      have c24_8_6 := cl hh24 hz23_8 c23_8_6
      have hz24_8 : B22 < w24.heap.size := Nat.lt_of_lt_of_le hz23_8 hh24.size
      have Q_24 : Hid (RelOwn (w7.heap.size + 1) w8.heap.size w24 (.agg #[.int .i64 g0b0, .slice g0a1 g0n1 g0c1, .slice g0a2 g0n2 g0c2, .bool g0b3, .slice g0a4 g0n4 g0c4, .string g0b5, .string g0b6]) (relMk 1 L0)) := Q_23.out.below hh24
      have HW_24 : Hid (RelAt w24 (.agg #[.int .i64 e0b0, .slice e0a1 e0n1 e0c1, .slice e0a2 e0n2 e0c2, .bool e0b3, .slice e0a4 e0n4 e0c4, .string e0b5, .string e0b6]) L0) := HW_23.out.below hh24
      have HZ24 : Hid (w23.heap.size ≤ w24.heap.size) := hh24.size
      clear c23_0_0 c23_0_1 hz23_0 c23_1_0 c23_1_1 hz23_1 c23_2_0 c23_2_1 hz23_2 c23_3_0 c23_3_1 c23_3_2 c23_3_3 c23_3_4 c23_3_5 c23_3_6 hz23_3 c23_4_0 c23_4_1 hz23_4 c23_5_0 c23_5_1 hz23_5 c23_6_0 c23_6_1 hz23_6 c23_7_0 c23_7_1 c23_7_2 c23_7_3 c23_7_4 c23_7_5 c23_7_6 hz23_7 c23_8_0 c23_8_1 c23_8_2 c23_8_3 c23_8_4 c23_8_5 c23_8_6 hz23_8 Q_23 HW_23 hb24 hh24
      go_wp2
      go_ret
      exact ⟨rfl, HB24.out⟩
end Go.Proofs.YtkepmjebnkcbgaaGreatDoor
