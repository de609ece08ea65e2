/-
  The law FnExactReleaseOf.
-/
import Derived.Test.YtcdgikhkjpneiaaGreatDoorGW144
import Derived.Test.YtcdgikhkjpneiaaGreatDoorGW486
import Derived.Test.YtcdgikhkjpneiaaGreatDoorGW489
import Derived.Deep.DeepCutAuto
import Derived.Deep.RegionHeld3
namespace Go.Proofs.YtcdgikhkjpneiaaGreatDoor
open Go.RowKit
set_option linter.unusedVariables false
set_option maxRecDepth 100000 in
set_option maxHeartbeats 4000000 in
theorem fnExactReleaseOf_walk (s0 : ByteArray) (n1 : Int) (va2 ve2 : Value) (xs2 : List Aff) (es2 : List (ByteArray × ByteArray)) (va3 ve3 : Value) (xs3 : List Aff) (es3 : List (ByteArray × ByteArray)) (w : World) (h0 : s0.size ≤ maxLen) (h1 : (Lit.int .i64 n1).wf = true) (h2 : AffsAt w va2 xs2) (h2x : EntsAt w ve2 es2) (h3 : AffsAt w va3 xs3) (h3x : EntsAt w ve3 es3) (ht0 : powTab w) (ht1 : roundTab w) (ht2 : firstTab w) :
    Calls Tryz.prog 3 #[.string s0, .int .i64 n1, .agg #[va2, ve2], .agg #[va3, ve3]] w fun e w' => e = .returned (.bool true) ∧ Below w.heap.size w w' := by
  have HA2 : Hid (BookAt w (.agg #[va2, ve2]) (xs2, es2)) := ⟨va2, ve2, rfl, h2, h2x⟩
  clear h2 h2x
  have HA3 : Hid (BookAt w (.agg #[va3, ve3]) (xs3, es3)) := ⟨va3, ve3, rfl, h3, h3x⟩
  clear h3 h3x
  by_cases hg0 : (s0.size : Int) > 1048576
  · unfold maxLen at h0
    go_enter Tryz.func3, Tryz.ntmps3
    go_wp2
    go_ret
    exact ⟨rfl, (((Below.refl _ _).alloc (Nat.le_refl _) _).alloc (by simp <;> omega) _)⟩
  have hg0x : ¬ (1048576 : Int) < s0.size := by omega
  have hl0 : s0.size ≤ 1048576 := by omega
  have HLK : Hid (s0.size ≤ maxLen) := by show _ ≤ _; unfold maxLen; omega
  have TB0_0 : Hid (powTab w) := ht0
  clear ht0
  have TB1_0 : Hid (roundTab w) := ht1
  clear ht1
  have TB2_0 : Hid (firstTab w) := ht2
  clear ht2
  obtain ⟨L0, hL0⟩ : ∃ L, rofT s0 n1 xs2 es2 xs3 es3 = L := ⟨_, rfl⟩
  obtain ⟨L1, hL1⟩ : ∃ L, rofB s0 n1 xs2 es2 xs3 es3 = L := ⟨_, rfl⟩
  have HSM : Hid (ReleaseSm L0) := by rw [← hL0]; exact rof_small s0 n1 xs2 es2 xs3 es3
  have HSP : Hid (∀ (w : World) (u2 : Value) (u3 : Value), BookAt w u2 (xs2, es2) → BookAt w u3 (xs3, es3) → powTab w → roundTab w → firstTab w → Calls Tryz.prog 6 #[.string s0, .int .i64 n1, u2, u3] w fun e w' => ∃ (qb0 : Int) (qa1 : Option Addr) (qn1 qc1 : Nat) (qa2 : Option Addr) (qn2 qc2 : Nat) (qb3 : Bool) (qa4 : Option Addr) (qn4 qc4 : Nat) (qb5 : ByteArray) (qb6 : ByteArray), e = .returned (.tuple #[.agg #[.int .i64 qb0, .slice qa1 qn1 qc1, .slice qa2 qn2 qc2, .bool qb3, .slice qa4 qn4 qc4, .string qb5, .string qb6], .bool L1]) ∧ RelOwn w.heap.size w'.heap.size w' (.agg #[.int .i64 qb0, .slice qa1 qn1 qc1, .slice qa2 qn2 qc2, .bool qb3, .slice qa4 qn4 qc4, .string qb5, .string qb6]) L0 ∧ Below w.heap.size w w') := fun w u2 u3 g2 g3 t0 t1 t2 => by
    rw [← hL0, ← hL1]
    refine Calls.mono (by obtain ⟨va, ve, rfl, h1, h2⟩ := g2; obtain ⟨ua, ue, rfl, h3, h4⟩ := g3; exact specReleaseOf_any w s0 n1 va ve ua ue xs2 es2 xs3 es3 HLK.out h1 h2 h3 h4 t0 t1 t2) ?_
    rintro e w' ⟨v, rfl, h1, h2⟩
    obtain ⟨_, _, _, _, _, _, _, _, _, _, _, _, _, rfl⟩ := RelAt.form2 h1.at
    exact ⟨_, _, _, _, _, _, _, _, _, _, _, _, _, rfl, h1, h2⟩
  have HIM : Hid (∀ (w : World) (u2 : Value) (u3 : Value), BookAt w u2 (xs2, es2) → BookAt w u3 (xs3, es3) → powTab w → roundTab w → firstTab w → Calls Tryz.prog 8 #[.string s0, .int .i64 n1, u2, u3] w fun e w' => ∃ (qb0 : Int) (qa1 : Option Addr) (qn1 qc1 : Nat) (qa2 : Option Addr) (qn2 qc2 : Nat) (qb3 : Bool) (qa4 : Option Addr) (qn4 qc4 : Nat) (qb5 : ByteArray) (qb6 : ByteArray), e = .returned (.tuple #[.agg #[.int .i64 qb0, .slice qa1 qn1 qc1, .slice qa2 qn2 qc2, .bool qb3, .slice qa4 qn4 qc4, .string qb5, .string qb6], .bool L1]) ∧ RelOwn w.heap.size w'.heap.size w' (.agg #[.int .i64 qb0, .slice qa1 qn1 qc1, .slice qa2 qn2 qc2, .bool qb3, .slice qa4 qn4 qc4, .string qb5, .string qb6]) L0 ∧ Below w.heap.size w w') := fun w u2 u3 g2 g3 t0 t1 t2 => by
    rw [← hL0, ← hL1]
    refine Calls.mono (by obtain ⟨va, ve, rfl, h1, h2⟩ := g2; obtain ⟨ua, ue, rfl, h3, h4⟩ := g3; exact implReleaseOf_any w s0 n1 va ve ua ue xs2 es2 xs3 es3 HLK.out h1 h2 h3 h4 t0 t1 t2) ?_
    rintro e w' ⟨v, rfl, h1, h2⟩
    obtain ⟨_, _, _, _, _, _, _, _, _, _, _, _, _, rfl⟩ := RelAt.form2 h1.at
    exact ⟨_, _, _, _, _, _, _, _, _, _, _, _, _, rfl, h1, h2⟩
  clear hL0 hL1
  go_enter Tryz.func3, Tryz.ntmps3
  go_wp2_with fail
  have HX0 : Hid (Below w.heap.size w ((w.alloc (.cells #[va2, ve2] 25)).alloc (.cells #[va3, ve3] 25))) := (((Below.refl _ _).alloc (Nat.le_refl _) _).alloc (by simp <;> omega) _)
  refine (szBook_u _ _ (xs2, es2) _ (HA2.out.below HX0.out) (by omega) (by omega)).mono ?_
  rintro e w1 ⟨⟨r2, rfl, hr2, hq2⟩, hb1⟩
  have HR2 : Hid (0 ≤ r2 → BookSm (xs2, es2)) := hq2
  clear hq2
  have hh1 : Below w.heap.size w w1 := Below.trans HX0.out (Below.mono hb1 (Below.size HX0.out))
  have HB1 : Hid (Below w.heap.size w w1) := hh1
  have c1_0_0 : w1.cell? ⟨(w.heap.size), 0, none⟩ = some (va2) := (hb1.cell (p := ⟨(w.heap.size), 0, none⟩) (by simp <;> omega)).trans (by simp [go_sem])
  have c1_0_1 : w1.cell? ⟨(w.heap.size), 1, none⟩ = some (ve2) := (hb1.cell (p := ⟨(w.heap.size), 1, none⟩) (by simp <;> omega)).trans (by simp [go_sem])
  have hz1_0 : (w.heap.size) < w1.heap.size := by have := hb1.size; simp at this; omega
  have c1_1_0 : w1.cell? ⟨(w.heap.size + 1), 0, none⟩ = some (va3) := (hb1.cell (p := ⟨(w.heap.size + 1), 0, none⟩) (by simp <;> omega)).trans (by simp [go_sem])
  have c1_1_1 : w1.cell? ⟨(w.heap.size + 1), 1, none⟩ = some (ve3) := (hb1.cell (p := ⟨(w.heap.size + 1), 1, none⟩) (by simp <;> omega)).trans (by simp [go_sem])
  have hz1_1 : (w.heap.size + 1) < w1.heap.size := by have := hb1.size; simp at this; omega
  have HZ1 : Hid (w.heap.size + 2 ≤ w1.heap.size) := by have := hb1.size; simp at this; show _ ≤ _; omega
  clear hb1 hh1
  by_cases hn2 : r2 < 0
  · go_wp2
    go_ret
    exact ⟨rfl, HB1.out⟩
  have HN2 : Hid (BookSm (xs2, es2)) := HR2.out (by omega)
  go_wp2_with fail
  refine (szBook_u _ _ (xs3, es3) _ (HA3.out.below HB1.out) (by omega) (by omega)).mono ?_
  rintro e w2 ⟨⟨r3, rfl, hr3, hq3⟩, hb2⟩
  have HR3 : Hid (0 ≤ r3 → BookSm (xs3, es3)) := hq3
  clear hq3
  have hh2 : Below w1.heap.size w1 w2 := hb2
  have HB2 : Hid (Below w.heap.size w w2) := HB1.out.trans (hh2.mono HB1.out.size)
  have c2_0_0 := (hh2.cell (p := ⟨(w.heap.size), 0, none⟩) hz1_0).trans c1_0_0
  have c2_0_1 := (hh2.cell (p := ⟨(w.heap.size), 1, none⟩) hz1_0).trans c1_0_1
  have hz2_0 : (w.heap.size) < w2.heap.size := Nat.lt_of_lt_of_le hz1_0 hh2.size
  have c2_1_0 := (hh2.cell (p := ⟨(w.heap.size + 1), 0, none⟩) hz1_1).trans c1_1_0
  have c2_1_1 := (hh2.cell (p := ⟨(w.heap.size + 1), 1, none⟩) hz1_1).trans c1_1_1
  have hz2_1 : (w.heap.size + 1) < w2.heap.size := Nat.lt_of_lt_of_le hz1_1 hh2.size
  have HZ2 : Hid (w1.heap.size ≤ w2.heap.size) := hh2.size
  clear c1_0_0 c1_0_1 hz1_0 c1_1_0 c1_1_1 hz1_1 hb2 hh2
  by_cases hn3 : r3 < 0
  · go_wp2
    go_ret
    exact ⟨rfl, HB2.out⟩
  have HN3 : Hid (BookSm (xs3, es3)) := HR3.out (by omega)
  go_wp2_with fail
  go_cut [10, 11] (fun u v0 wx => ∃ (Q lo hi : Nat) (p0b0 : Int) (p0a1 : Option Addr) (p0n1 p0c1 : Nat) (p0a2 : Option Addr) (p0n2 p0c2 : Nat) (p0b3 : Bool) (p0a4 : Option Addr) (p0n4 p0c4 : Nat) (p0b5 : ByteArray) (p0b6 : ByteArray), u = .pointer (some ⟨Q, 0, none⟩) ∧ v0 = .bool L1 ∧ wx.heap[Q]? = some (.cells #[.int .i64 p0b0, .slice p0a1 p0n1 p0c1, .slice p0a2 p0n2 p0c2, .bool p0b3, .slice p0a4 p0n4 p0c4, .string p0b5, .string p0b6] 33 (0, 0)) ∧ RelOwn lo hi wx (.agg #[.int .i64 p0b0, .slice p0a1 p0n1 p0c1, .slice p0a2 p0n2 p0c2, .bool p0b3, .slice p0a4 p0n4 p0c4, .string p0b5, .string p0b6]) L0 ∧ w2.heap.size ≤ lo ∧ lo ≤ hi ∧ hi ≤ wx.heap.size ∧ (Q < lo ∨ hi ≤ Q) ∧ Below w2.heap.size w2 wx ∧ w2.heap.size ≤ Q)
  case first =>
    have HS9 : Hid ((Tryz.prog.info? 33).map (·.size) = some 7) := by show _ = _; kernel_rfl
    have HC9 : Hid (∀ V, Below w2.heap.size w2 V → V.cell? ⟨(w.heap.size), 0, none⟩ = some (va2) ∧ V.cell? ⟨(w.heap.size), 1, none⟩ = some (ve2) ∧ V.cell? ⟨(w.heap.size + 1), 0, none⟩ = some (va3) ∧ V.cell? ⟨(w.heap.size + 1), 1, none⟩ = some (ve3)) := fun V hV => ⟨(hV.cell (p := ⟨(w.heap.size), 0, none⟩) hz2_0).trans c2_0_0, (hV.cell (p := ⟨(w.heap.size), 1, none⟩) hz2_0).trans c2_0_1, (hV.cell (p := ⟨(w.heap.size + 1), 0, none⟩) hz2_1).trans c2_1_0, (hV.cell (p := ⟨(w.heap.size + 1), 1, none⟩) hz2_1).trans c2_1_1⟩
    refine wp_region_held_drew (S := (fun w' => w'.cell? ⟨(w.heap.size), 0, none⟩ = some (va2) ∧ w'.cell? ⟨(w.heap.size), 1, none⟩ = some (ve2) ∧ w'.cell? ⟨(w.heap.size + 1), 0, none⟩ = some (va3) ∧ w'.cell? ⟨(w.heap.size + 1), 1, none⟩ = some (ve3))) (by kernel_rfl) ?_ (fun hHeld => ?_)
    · exact HC9.out w2 (Below.refl _ _)
    refine wpAnyH_takeD (i := 0) (d := 35) (v := .string s0) rfl (by kernel_rfl) (by kernel_rfl) (by kernel_rfl) (fun _ _ _ h => h) (Or.inl ⟨by rfl, by intro w hSw; (try dsimp only at hSw); go_simp⟩) (by assumption) rfl ?_
    simp only [Act.put, List.setIfInBounds_toArray, List.set_cons_zero, List.set_cons_succ]
    refine wpAnyH_takeD (i := 1) (d := 36) (v := .int .i64 n1) rfl (by kernel_rfl) (by kernel_rfl) (by kernel_rfl) (fun _ _ _ h => h) (Or.inl ⟨by rfl, by intro w hSw; (try dsimp only at hSw); go_simp⟩) (by assumption) rfl ?_
    simp only [Act.put, List.setIfInBounds_toArray, List.set_cons_zero, List.set_cons_succ]
    refine wpAnyH_takeD (i := 2) (d := 37) (v := .agg #[va2, ve2]) rfl (by kernel_rfl) (by kernel_rfl) (by kernel_rfl) (fun _ _ _ h => h) (Or.inl ⟨by rfl, by intro w hSw; (try dsimp only at hSw); go_simp⟩) (by assumption) rfl ?_
    simp only [Act.put, List.setIfInBounds_toArray, List.set_cons_zero, List.set_cons_succ]
    refine wpAnyH_takeD (i := 4) (d := 39) (v := .agg #[va3, ve3]) rfl (by kernel_rfl) (by kernel_rfl) (by kernel_rfl) (fun _ _ _ h => h) (Or.inl ⟨by rfl, by intro w hSw; (try dsimp only at hSw); go_simp⟩) (by assumption) rfl ?_
    simp only [Act.put, List.setIfInBounds_toArray, List.set_cons_zero, List.set_cons_succ]
    obtain ⟨x2_0, hx⟩ : ∃ X, World.drew w2 = X := ⟨_, rfl⟩
    have Kx2_0 : Hid (Below w2.heap.size w2 x2_0) := by show Below _ _ _; rw [← hx]; exact (Below.refl _ _).drew
    have Zx2_0 : Hid (w2.heap.size ≤ x2_0.heap.size) := Kx2_0.out.size
    rw [hx]
    clear hx c2_0_0 c2_0_1 c2_1_0 c2_1_1
    refine wpAnyH_ready (rs := [3, 10]) (by kernel_rfl) (by simp) ?_
    refine AllReadyH.cons rfl (fun K hK => ?_) (AllReadyH.cons rfl (fun K hK => ?_) AllReadyH.nil)
    · skip
      go_simp
      refine (toBook_u _ _ (xs2, es2) (HA2.out.below (HB2.out.trans (Kx2_0.out.mono HB2.out.size))) HN2.out).mono ?_
      rintro e x2_1 ⟨u2, rfl, ho, hb⟩
      have U2x2_1 : Hid (BookAt x2_1 u2 (xs2, es2)) := ho.at
      clear ho
      have Zx2_1 : Hid (x2_0.heap.size ≤ x2_1.heap.size) := hb.size
      have Kx2_1 : Hid (Below w2.heap.size w2 x2_1) := Kx2_0.out.trans (hb.mono Kx2_0.out.size)
      clear hb
      refine hK.out _ _ ?_ (fun hHeld => ?_)
      · exact HC9.out _ Kx2_1.out
      clear hK K
      try simp only [Act.put, List.setIfInBounds_toArray, List.set_cons_zero, List.set_cons_succ]
      refine wpAnyH_ready (rs := [5, 10]) (by kernel_rfl) (by simp) ?_
      refine AllReadyH.cons rfl (fun K hK => ?_) (AllReadyH.cons rfl (fun K hK => ?_) AllReadyH.nil)
      · skip
        go_simp
        refine (toBook_u _ _ (xs3, es3) (HA3.out.below (HB2.out.trans (Kx2_1.out.mono HB2.out.size))) HN3.out).mono ?_
        rintro e x2_2 ⟨u3, rfl, ho, hb⟩
        have U3x2_2 : Hid (BookAt x2_2 u3 (xs3, es3)) := ho.at
        clear ho
        have Zx2_2 : Hid (x2_1.heap.size ≤ x2_2.heap.size) := hb.size
        have Kx2_2 : Hid (Below w2.heap.size w2 x2_2) := Kx2_1.out.trans (hb.mono Kx2_1.out.size)
        have U2x2_2 : Hid (BookAt x2_2 u2 (xs2, es2)) := U2x2_1.out.below hb
        clear hb
        refine hK.out _ _ ?_ (fun hHeld => ?_)
        · exact HC9.out _ Kx2_2.out
        clear hK K
        try simp only [Act.put, List.setIfInBounds_toArray, List.set_cons_zero, List.set_cons_succ]
        refine wpAnyH_ready (rs := [6, 10]) (by kernel_rfl) (by simp) ?_
        refine AllReadyH.cons rfl (fun K hK => ?_) (AllReadyH.cons rfl (fun K hK => ?_) AllReadyH.nil)
        · skip
          go_simp
          refine (HSP.out _ _ _ U2x2_2.out U3x2_2.out (TB0_0.out.below (HB2.out.trans (Kx2_2.out.mono HB2.out.size))) (TB1_0.out.below (HB2.out.trans (Kx2_2.out.mono HB2.out.size))) (TB2_0.out.below (HB2.out.trans (Kx2_2.out.mono HB2.out.size)))).mono ?_
          rintro e x2_3 ⟨p0b0, p0a1, p0n1, p0c1, p0a2, p0n2, p0c2, p0b3, p0a4, p0n4, p0c4, p0b5, p0b6, rfl, hg, hb⟩
          have Gx2_3 : Hid (RelOwn x2_2.heap.size x2_3.heap.size x2_3 (.agg #[.int .i64 p0b0, .slice p0a1 p0n1 p0c1, .slice p0a2 p0n2 p0c2, .bool p0b3, .slice p0a4 p0n4 p0c4, .string p0b5, .string p0b6]) L0) := hg
          clear hg
          have Zx2_3 : Hid (x2_2.heap.size ≤ x2_3.heap.size) := hb.size
          have Kx2_3 : Hid (Below w2.heap.size w2 x2_3) := Kx2_2.out.trans (hb.mono Kx2_2.out.size)
          have U2x2_3 : Hid (BookAt x2_3 u2 (xs2, es2)) := U2x2_2.out.below hb
          have U3x2_3 : Hid (BookAt x2_3 u3 (xs3, es3)) := U3x2_2.out.below hb
          clear hb
          refine hK.out _ _ ?_ (fun hHeld => ?_)
          · exact HC9.out _ Kx2_3.out
          clear hK K
          try simp only [Act.put, List.setIfInBounds_toArray, List.set_cons_zero, List.set_cons_succ]
          refine wpAnyH_takeD (i := 7) (d := 34) (v := .tuple #[.agg #[.int .i64 p0b0, .slice p0a1 p0n1 p0c1, .slice p0a2 p0n2 p0c2, .bool p0b3, .slice p0a4 p0n4 p0c4, .string p0b5, .string p0b6], .bool L1]) rfl (by kernel_rfl) (by kernel_rfl) (by kernel_rfl) (fun _ _ _ h => h) (Or.inl ⟨by rfl, by intro w hSw; (try dsimp only at hSw); go_simp⟩) (by assumption) rfl ?_
          simp only [Act.put, List.setIfInBounds_toArray, List.set_cons_zero, List.set_cons_succ]
          refine wpAnyH_takeD (i := 8) (d := 42) (v := .agg #[.int .i64 p0b0, .slice p0a1 p0n1 p0c1, .slice p0a2 p0n2 p0c2, .bool p0b3, .slice p0a4 p0n4 p0c4, .string p0b5, .string p0b6]) rfl (by kernel_rfl) (by kernel_rfl) (by kernel_rfl) (fun _ _ _ h => h) (Or.inl ⟨by rfl, by intro w hSw; (try dsimp only at hSw); go_simp⟩) (by assumption) rfl ?_
          simp only [Act.put, List.setIfInBounds_toArray, List.set_cons_zero, List.set_cons_succ]
          refine wpAnyH_takeD (i := 9) (d := 43) (v := .bool L1) rfl (by kernel_rfl) (by kernel_rfl) (by kernel_rfl) (fun _ _ _ h => h) (Or.inl ⟨by rfl, by intro w hSw; (try dsimp only at hSw); go_simp⟩) (by assumption) rfl ?_
          simp only [Act.put, List.setIfInBounds_toArray, List.set_cons_zero, List.set_cons_succ]
          refine wpAnyH_ready (rs := [10]) (by kernel_rfl) (by simp) ?_
          refine AllReadyH.cons rfl (fun K hK => ?_) AllReadyH.nil
          go_simp
          have NA : Hid ((x2_3.alloc (.cells #[.int .i64 0, .slice none 0 0, .slice none 0 0, .bool false, .slice none 0 0, .string ⟨#[]⟩, .string ⟨#[]⟩] 33)).heap[x2_3.heap.size]? = some (.cells #[.int .i64 0, .slice none 0 0, .slice none 0 0, .bool false, .slice none 0 0, .string ⟨#[]⟩, .string ⟨#[]⟩] 33 (0, 0))) := heap_alloc_last _ _
          obtain ⟨x2_4, hx⟩ : ∃ X, x2_3.alloc (.cells #[.int .i64 0, .slice none 0 0, .slice none 0 0, .bool false, .slice none 0 0, .string ⟨#[]⟩, .string ⟨#[]⟩] 33) = X := ⟨_, rfl⟩
          have hb : Below x2_3.heap.size x2_3 x2_4 := by rw [← hx]; exact (Below.refl _ _).alloc (Nat.le_refl _) _
          have Zx2_4 : Hid (x2_3.heap.size < x2_4.heap.size) := by show _ < _; rw [← hx]; simp
          have Nx2_4 : Hid (x2_4.heap[x2_3.heap.size]? = some (.cells #[.int .i64 0, .slice none 0 0, .slice none 0 0, .bool false, .slice none 0 0, .string ⟨#[]⟩, .string ⟨#[]⟩] 33 (0, 0))) := by show _ = _; rw [← hx]; exact NA.out
          have HQ : Hid (w2.heap.size ≤ x2_3.heap.size) := Kx2_3.out.size
          rw [hx]
          clear hx NA
          have Kx2_4 : Hid (Below w2.heap.size w2 x2_4) := Kx2_3.out.trans (hb.mono Kx2_3.out.size)
          have Gx2_4 : Hid (RelOwn x2_2.heap.size x2_3.heap.size x2_4 (.agg #[.int .i64 p0b0, .slice p0a1 p0n1 p0c1, .slice p0a2 p0n2 p0c2, .bool p0b3, .slice p0a4 p0n4 p0c4, .string p0b5, .string p0b6]) L0) := Gx2_3.out.below hb
          clear hb
          refine hK.out _ _ ?_ (fun hHeld => ?_)
          · exact HC9.out _ Kx2_4.out
          clear hK K
          try simp only [Act.put, List.setIfInBounds_toArray, List.set_cons_zero, List.set_cons_succ]
          refine wpAnyH_ready (rs := [11]) (by kernel_rfl) (by simp) ?_
          refine AllReadyH.cons rfl (fun K hK => ?_) AllReadyH.nil
          refine step_store_row rfl 33 (.tmp 10) (.tmp 42) rfl (x2_3.heap.size) #[.int .i64 p0b0, .slice p0a1 p0n1 p0c1, .slice p0a2 p0n2 p0c2, .bool p0b3, .slice p0a4 p0n4 p0c4, .string p0b5, .string p0b6] rfl rfl 33 _ Nx2_4.out HS9.out rfl (by simp [Value.oneCell']) rfl ?_
          obtain ⟨V, hV⟩ : ∃ X, x2_4.setRow (x2_3.heap.size) #[.int .i64 p0b0, .slice p0a1 p0n1 p0c1, .slice p0a2 p0n2 p0c2, .bool p0b3, .slice p0a4 p0n4 p0c4, .string p0b5, .string p0b6] = X := ⟨_, rfl⟩
          have KV : Hid (Below w2.heap.size w2 V) := by show Below _ _ _; rw [← hV]; exact below_setRow Kx2_4.out HQ.out _
          have NV : Hid (V.heap[x2_3.heap.size]? = some (.cells #[.int .i64 p0b0, .slice p0a1 p0n1 p0c1, .slice p0a2 p0n2 p0c2, .bool p0b3, .slice p0a4 p0n4 p0c4, .string p0b5, .string p0b6] 33 (0, 0))) := by show _ = _; rw [← hV]; exact setRow_heap _ _ _ _ _ _ Nx2_4.out
          have zx2_0 := Zx2_0.out
          have zx2_1 := Zx2_1.out
          have zx2_2 := Zx2_2.out
          have zx2_3 := Zx2_3.out
          have zx2_4 := Zx2_4.out
          have hsV : V.heap.size = x2_4.heap.size := by rw [← hV]; simp
          have GV : Hid (RelOwn x2_2.heap.size x2_3.heap.size V (.agg #[.int .i64 p0b0, .slice p0a1 p0n1 p0c1, .slice p0a2 p0n2 p0c2, .bool p0b3, .slice p0a4 p0n4 p0c4, .string p0b5, .string p0b6]) L0) := by
            show RelOwn _ _ _ _ _
            rw [← hV]
            exact relOwn_setRow486 Gx2_4.out (q := x2_3.heap.size) (by omega) _
          rw [hV]
          clear hV
          refine hK.out _ _ ?_ (fun hHeld => ?_)
          · exact HC9.out _ KV.out
          clear hK K
          try simp only [Act.put, List.setIfInBounds_toArray, List.set_cons_zero, List.set_cons_succ]
          refine wpAnyH_takeD (i := 12) (d := 11) (v := .bool L1) rfl (by kernel_rfl) (by kernel_rfl) (by kernel_rfl) (fun _ _ _ h => h) (Or.inl ⟨by rfl, by intro w hSw; (try dsimp only at hSw); go_simp⟩) (by assumption) rfl ?_
          simp only [Act.put, List.setIfInBounds_toArray, List.set_cons_zero, List.set_cons_succ]
          refine wpAnyH_done (by kernel_rfl) ?_ _
          go_wp2
          go_meet
          case rel =>
            exact ⟨_, _, _, _, _, _, _, _, _, _, _, _, _, _, _, _, rfl, rfl, NV.out, GV.out, by omega, by omega, by omega, by omega, KV.out, HQ.out⟩
        · skip
          go_simp
          have NA : Hid ((x2_2.alloc (.cells #[.int .i64 0, .slice none 0 0, .slice none 0 0, .bool false, .slice none 0 0, .string ⟨#[]⟩, .string ⟨#[]⟩] 33)).heap[x2_2.heap.size]? = some (.cells #[.int .i64 0, .slice none 0 0, .slice none 0 0, .bool false, .slice none 0 0, .string ⟨#[]⟩, .string ⟨#[]⟩] 33 (0, 0))) := heap_alloc_last _ _
          obtain ⟨x2_5, hx⟩ : ∃ X, x2_2.alloc (.cells #[.int .i64 0, .slice none 0 0, .slice none 0 0, .bool false, .slice none 0 0, .string ⟨#[]⟩, .string ⟨#[]⟩] 33) = X := ⟨_, rfl⟩
          have hb : Below x2_2.heap.size x2_2 x2_5 := by rw [← hx]; exact (Below.refl _ _).alloc (Nat.le_refl _) _
          have Zx2_5 : Hid (x2_2.heap.size < x2_5.heap.size) := by show _ < _; rw [← hx]; simp
          have Nx2_5 : Hid (x2_5.heap[x2_2.heap.size]? = some (.cells #[.int .i64 0, .slice none 0 0, .slice none 0 0, .bool false, .slice none 0 0, .string ⟨#[]⟩, .string ⟨#[]⟩] 33 (0, 0))) := by show _ = _; rw [← hx]; exact NA.out
          have HQ : Hid (w2.heap.size ≤ x2_2.heap.size) := Kx2_2.out.size
          rw [hx]
          clear hx NA
          have Kx2_5 : Hid (Below w2.heap.size w2 x2_5) := Kx2_2.out.trans (hb.mono Kx2_2.out.size)
          have U2x2_5 : Hid (BookAt x2_5 u2 (xs2, es2)) := U2x2_2.out.below hb
          have U3x2_5 : Hid (BookAt x2_5 u3 (xs3, es3)) := U3x2_2.out.below hb
          clear hb
          refine hK.out _ _ ?_ (fun hHeld => ?_)
          · exact HC9.out _ Kx2_5.out
          clear hK K
          try simp only [Act.put, List.setIfInBounds_toArray, List.set_cons_zero, List.set_cons_succ]
          refine wpAnyH_ready (rs := [6]) (by kernel_rfl) (by simp) ?_
          refine AllReadyH.cons rfl (fun K hK => ?_) AllReadyH.nil
          go_simp
          refine (HSP.out _ _ _ U2x2_5.out U3x2_5.out (TB0_0.out.below (HB2.out.trans (Kx2_5.out.mono HB2.out.size))) (TB1_0.out.below (HB2.out.trans (Kx2_5.out.mono HB2.out.size))) (TB2_0.out.below (HB2.out.trans (Kx2_5.out.mono HB2.out.size)))).mono ?_
          rintro e x2_6 ⟨p0b0, p0a1, p0n1, p0c1, p0a2, p0n2, p0c2, p0b3, p0a4, p0n4, p0c4, p0b5, p0b6, rfl, hg, hb⟩
          have Gx2_6 : Hid (RelOwn x2_5.heap.size x2_6.heap.size x2_6 (.agg #[.int .i64 p0b0, .slice p0a1 p0n1 p0c1, .slice p0a2 p0n2 p0c2, .bool p0b3, .slice p0a4 p0n4 p0c4, .string p0b5, .string p0b6]) L0) := hg
          clear hg
          have Zx2_6 : Hid (x2_5.heap.size ≤ x2_6.heap.size) := hb.size
          have Kx2_6 : Hid (Below w2.heap.size w2 x2_6) := Kx2_5.out.trans (hb.mono Kx2_5.out.size)
          have Nx2_6 : Hid (x2_6.heap[x2_2.heap.size]? = some (.cells #[.int .i64 0, .slice none 0 0, .slice none 0 0, .bool false, .slice none 0 0, .string ⟨#[]⟩, .string ⟨#[]⟩] 33 (0, 0))) := (hb.block _ (Array.getElem?_eq_some_iff.1 Nx2_5.out).1).trans Nx2_5.out
          have U2x2_6 : Hid (BookAt x2_6 u2 (xs2, es2)) := U2x2_5.out.below hb
          have U3x2_6 : Hid (BookAt x2_6 u3 (xs3, es3)) := U3x2_5.out.below hb
          clear hb
          refine hK.out _ _ ?_ (fun hHeld => ?_)
          · exact HC9.out _ Kx2_6.out
          clear hK K
          try simp only [Act.put, List.setIfInBounds_toArray, List.set_cons_zero, List.set_cons_succ]
          refine wpAnyH_takeD (i := 7) (d := 34) (v := .tuple #[.agg #[.int .i64 p0b0, .slice p0a1 p0n1 p0c1, .slice p0a2 p0n2 p0c2, .bool p0b3, .slice p0a4 p0n4 p0c4, .string p0b5, .string p0b6], .bool L1]) rfl (by kernel_rfl) (by kernel_rfl) (by kernel_rfl) (fun _ _ _ h => h) (Or.inl ⟨by rfl, by intro w hSw; (try dsimp only at hSw); go_simp⟩) (by assumption) rfl ?_
          simp only [Act.put, List.setIfInBounds_toArray, List.set_cons_zero, List.set_cons_succ]
          refine wpAnyH_takeD (i := 8) (d := 42) (v := .agg #[.int .i64 p0b0, .slice p0a1 p0n1 p0c1, .slice p0a2 p0n2 p0c2, .bool p0b3, .slice p0a4 p0n4 p0c4, .string p0b5, .string p0b6]) rfl (by kernel_rfl) (by kernel_rfl) (by kernel_rfl) (fun _ _ _ h => h) (Or.inl ⟨by rfl, by intro w hSw; (try dsimp only at hSw); go_simp⟩) (by assumption) rfl ?_
          simp only [Act.put, List.setIfInBounds_toArray, List.set_cons_zero, List.set_cons_succ]
          refine wpAnyH_takeD (i := 9) (d := 43) (v := .bool L1) rfl (by kernel_rfl) (by kernel_rfl) (by kernel_rfl) (fun _ _ _ h => h) (Or.inl ⟨by rfl, by intro w hSw; (try dsimp only at hSw); go_simp⟩) (by assumption) rfl ?_
          simp only [Act.put, List.setIfInBounds_toArray, List.set_cons_zero, List.set_cons_succ]
          refine wpAnyH_ready (rs := [11]) (by kernel_rfl) (by simp) ?_
          refine AllReadyH.cons rfl (fun K hK => ?_) AllReadyH.nil
          refine step_store_row rfl 33 (.tmp 10) (.tmp 42) rfl (x2_2.heap.size) #[.int .i64 p0b0, .slice p0a1 p0n1 p0c1, .slice p0a2 p0n2 p0c2, .bool p0b3, .slice p0a4 p0n4 p0c4, .string p0b5, .string p0b6] rfl rfl 33 _ Nx2_6.out HS9.out rfl (by simp [Value.oneCell']) rfl ?_
          obtain ⟨V, hV⟩ : ∃ X, x2_6.setRow (x2_2.heap.size) #[.int .i64 p0b0, .slice p0a1 p0n1 p0c1, .slice p0a2 p0n2 p0c2, .bool p0b3, .slice p0a4 p0n4 p0c4, .string p0b5, .string p0b6] = X := ⟨_, rfl⟩
          have KV : Hid (Below w2.heap.size w2 V) := by show Below _ _ _; rw [← hV]; exact below_setRow Kx2_6.out HQ.out _
          have NV : Hid (V.heap[x2_2.heap.size]? = some (.cells #[.int .i64 p0b0, .slice p0a1 p0n1 p0c1, .slice p0a2 p0n2 p0c2, .bool p0b3, .slice p0a4 p0n4 p0c4, .string p0b5, .string p0b6] 33 (0, 0))) := by show _ = _; rw [← hV]; exact setRow_heap _ _ _ _ _ _ Nx2_6.out
          have zx2_0 := Zx2_0.out
          have zx2_1 := Zx2_1.out
          have zx2_2 := Zx2_2.out
          have zx2_5 := Zx2_5.out
          have zx2_6 := Zx2_6.out
          have hsV : V.heap.size = x2_6.heap.size := by rw [← hV]; simp
          have GV : Hid (RelOwn x2_5.heap.size x2_6.heap.size V (.agg #[.int .i64 p0b0, .slice p0a1 p0n1 p0c1, .slice p0a2 p0n2 p0c2, .bool p0b3, .slice p0a4 p0n4 p0c4, .string p0b5, .string p0b6]) L0) := by
            show RelOwn _ _ _ _ _
            rw [← hV]
            exact relOwn_setRow486 Gx2_6.out (q := x2_2.heap.size) (by omega) _
          rw [hV]
          clear hV
          refine hK.out _ _ ?_ (fun hHeld => ?_)
          · exact HC9.out _ KV.out
          clear hK K
          try simp only [Act.put, List.setIfInBounds_toArray, List.set_cons_zero, List.set_cons_succ]
          refine wpAnyH_takeD (i := 12) (d := 11) (v := .bool L1) rfl (by kernel_rfl) (by kernel_rfl) (by kernel_rfl) (fun _ _ _ h => h) (Or.inl ⟨by rfl, by intro w hSw; (try dsimp only at hSw); go_simp⟩) (by assumption) rfl ?_
          simp only [Act.put, List.setIfInBounds_toArray, List.set_cons_zero, List.set_cons_succ]
          refine wpAnyH_done (by kernel_rfl) ?_ _
          go_wp2
          go_meet
          case rel =>
            exact ⟨_, _, _, _, _, _, _, _, _, _, _, _, _, _, _, _, rfl, rfl, NV.out, GV.out, by omega, by omega, by omega, by omega, KV.out, HQ.out⟩
      · skip
        go_simp
        have NA : Hid ((x2_1.alloc (.cells #[.int .i64 0, .slice none 0 0, .slice none 0 0, .bool false, .slice none 0 0, .string ⟨#[]⟩, .string ⟨#[]⟩] 33)).heap[x2_1.heap.size]? = some (.cells #[.int .i64 0, .slice none 0 0, .slice none 0 0, .bool false, .slice none 0 0, .string ⟨#[]⟩, .string ⟨#[]⟩] 33 (0, 0))) := heap_alloc_last _ _
        obtain ⟨x2_7, hx⟩ : ∃ X, x2_1.alloc (.cells #[.int .i64 0, .slice none 0 0, .slice none 0 0, .bool false, .slice none 0 0, .string ⟨#[]⟩, .string ⟨#[]⟩] 33) = X := ⟨_, rfl⟩
        have hb : Below x2_1.heap.size x2_1 x2_7 := by rw [← hx]; exact (Below.refl _ _).alloc (Nat.le_refl _) _
        have Zx2_7 : Hid (x2_1.heap.size < x2_7.heap.size) := by show _ < _; rw [← hx]; simp
        have Nx2_7 : Hid (x2_7.heap[x2_1.heap.size]? = some (.cells #[.int .i64 0, .slice none 0 0, .slice none 0 0, .bool false, .slice none 0 0, .string ⟨#[]⟩, .string ⟨#[]⟩] 33 (0, 0))) := by show _ = _; rw [← hx]; exact NA.out
        have HQ : Hid (w2.heap.size ≤ x2_1.heap.size) := Kx2_1.out.size
        rw [hx]
        clear hx NA
        have Kx2_7 : Hid (Below w2.heap.size w2 x2_7) := Kx2_1.out.trans (hb.mono Kx2_1.out.size)
        have U2x2_7 : Hid (BookAt x2_7 u2 (xs2, es2)) := U2x2_1.out.below hb
        clear hb
        refine hK.out _ _ ?_ (fun hHeld => ?_)
        · exact HC9.out _ Kx2_7.out
        clear hK K
        try simp only [Act.put, List.setIfInBounds_toArray, List.set_cons_zero, List.set_cons_succ]
        refine wpAnyH_ready (rs := [5]) (by kernel_rfl) (by simp) ?_
        refine AllReadyH.cons rfl (fun K hK => ?_) AllReadyH.nil
        go_simp
        refine (toBook_u _ _ (xs3, es3) (HA3.out.below (HB2.out.trans (Kx2_7.out.mono HB2.out.size))) HN3.out).mono ?_
        rintro e x2_8 ⟨u3, rfl, ho, hb⟩
        have U3x2_8 : Hid (BookAt x2_8 u3 (xs3, es3)) := ho.at
        clear ho
        have Zx2_8 : Hid (x2_7.heap.size ≤ x2_8.heap.size) := hb.size
        have Kx2_8 : Hid (Below w2.heap.size w2 x2_8) := Kx2_7.out.trans (hb.mono Kx2_7.out.size)
        have Nx2_8 : Hid (x2_8.heap[x2_1.heap.size]? = some (.cells #[.int .i64 0, .slice none 0 0, .slice none 0 0, .bool false, .slice none 0 0, .string ⟨#[]⟩, .string ⟨#[]⟩] 33 (0, 0))) := (hb.block _ (Array.getElem?_eq_some_iff.1 Nx2_7.out).1).trans Nx2_7.out
        have U2x2_8 : Hid (BookAt x2_8 u2 (xs2, es2)) := U2x2_7.out.below hb
        clear hb
        refine hK.out _ _ ?_ (fun hHeld => ?_)
        · exact HC9.out _ Kx2_8.out
        clear hK K
        try simp only [Act.put, List.setIfInBounds_toArray, List.set_cons_zero, List.set_cons_succ]
        refine wpAnyH_ready (rs := [6]) (by kernel_rfl) (by simp) ?_
        refine AllReadyH.cons rfl (fun K hK => ?_) AllReadyH.nil
        go_simp
        refine (HSP.out _ _ _ U2x2_8.out U3x2_8.out (TB0_0.out.below (HB2.out.trans (Kx2_8.out.mono HB2.out.size))) (TB1_0.out.below (HB2.out.trans (Kx2_8.out.mono HB2.out.size))) (TB2_0.out.below (HB2.out.trans (Kx2_8.out.mono HB2.out.size)))).mono ?_
        rintro e x2_9 ⟨p0b0, p0a1, p0n1, p0c1, p0a2, p0n2, p0c2, p0b3, p0a4, p0n4, p0c4, p0b5, p0b6, rfl, hg, hb⟩
        have Gx2_9 : Hid (RelOwn x2_8.heap.size x2_9.heap.size x2_9 (.agg #[.int .i64 p0b0, .slice p0a1 p0n1 p0c1, .slice p0a2 p0n2 p0c2, .bool p0b3, .slice p0a4 p0n4 p0c4, .string p0b5, .string p0b6]) L0) := hg
        clear hg
        have Zx2_9 : Hid (x2_8.heap.size ≤ x2_9.heap.size) := hb.size
        have Kx2_9 : Hid (Below w2.heap.size w2 x2_9) := Kx2_8.out.trans (hb.mono Kx2_8.out.size)
        have Nx2_9 : Hid (x2_9.heap[x2_1.heap.size]? = some (.cells #[.int .i64 0, .slice none 0 0, .slice none 0 0, .bool false, .slice none 0 0, .string ⟨#[]⟩, .string ⟨#[]⟩] 33 (0, 0))) := (hb.block _ (Array.getElem?_eq_some_iff.1 Nx2_8.out).1).trans Nx2_8.out
        have U2x2_9 : Hid (BookAt x2_9 u2 (xs2, es2)) := U2x2_8.out.below hb
        have U3x2_9 : Hid (BookAt x2_9 u3 (xs3, es3)) := U3x2_8.out.below hb
        clear hb
        refine hK.out _ _ ?_ (fun hHeld => ?_)
        · exact HC9.out _ Kx2_9.out
        clear hK K
        try simp only [Act.put, List.setIfInBounds_toArray, List.set_cons_zero, List.set_cons_succ]
        refine wpAnyH_takeD (i := 7) (d := 34) (v := .tuple #[.agg #[.int .i64 p0b0, .slice p0a1 p0n1 p0c1, .slice p0a2 p0n2 p0c2, .bool p0b3, .slice p0a4 p0n4 p0c4, .string p0b5, .string p0b6], .bool L1]) rfl (by kernel_rfl) (by kernel_rfl) (by kernel_rfl) (fun _ _ _ h => h) (Or.inl ⟨by rfl, by intro w hSw; (try dsimp only at hSw); go_simp⟩) (by assumption) rfl ?_
        simp only [Act.put, List.setIfInBounds_toArray, List.set_cons_zero, List.set_cons_succ]
        refine wpAnyH_takeD (i := 8) (d := 42) (v := .agg #[.int .i64 p0b0, .slice p0a1 p0n1 p0c1, .slice p0a2 p0n2 p0c2, .bool p0b3, .slice p0a4 p0n4 p0c4, .string p0b5, .string p0b6]) rfl (by kernel_rfl) (by kernel_rfl) (by kernel_rfl) (fun _ _ _ h => h) (Or.inl ⟨by rfl, by intro w hSw; (try dsimp only at hSw); go_simp⟩) (by assumption) rfl ?_
        simp only [Act.put, List.setIfInBounds_toArray, List.set_cons_zero, List.set_cons_succ]
        refine wpAnyH_takeD (i := 9) (d := 43) (v := .bool L1) rfl (by kernel_rfl) (by kernel_rfl) (by kernel_rfl) (fun _ _ _ h => h) (Or.inl ⟨by rfl, by intro w hSw; (try dsimp only at hSw); go_simp⟩) (by assumption) rfl ?_
        simp only [Act.put, List.setIfInBounds_toArray, List.set_cons_zero, List.set_cons_succ]
        refine wpAnyH_ready (rs := [11]) (by kernel_rfl) (by simp) ?_
        refine AllReadyH.cons rfl (fun K hK => ?_) AllReadyH.nil
        refine step_store_row rfl 33 (.tmp 10) (.tmp 42) rfl (x2_1.heap.size) #[.int .i64 p0b0, .slice p0a1 p0n1 p0c1, .slice p0a2 p0n2 p0c2, .bool p0b3, .slice p0a4 p0n4 p0c4, .string p0b5, .string p0b6] rfl rfl 33 _ Nx2_9.out HS9.out rfl (by simp [Value.oneCell']) rfl ?_
        obtain ⟨V, hV⟩ : ∃ X, x2_9.setRow (x2_1.heap.size) #[.int .i64 p0b0, .slice p0a1 p0n1 p0c1, .slice p0a2 p0n2 p0c2, .bool p0b3, .slice p0a4 p0n4 p0c4, .string p0b5, .string p0b6] = X := ⟨_, rfl⟩
        have KV : Hid (Below w2.heap.size w2 V) := by show Below _ _ _; rw [← hV]; exact below_setRow Kx2_9.out HQ.out _
        have NV : Hid (V.heap[x2_1.heap.size]? = some (.cells #[.int .i64 p0b0, .slice p0a1 p0n1 p0c1, .slice p0a2 p0n2 p0c2, .bool p0b3, .slice p0a4 p0n4 p0c4, .string p0b5, .string p0b6] 33 (0, 0))) := by show _ = _; rw [← hV]; exact setRow_heap _ _ _ _ _ _ Nx2_9.out
        have zx2_0 := Zx2_0.out
        have zx2_1 := Zx2_1.out
        have zx2_7 := Zx2_7.out
        have zx2_8 := Zx2_8.out
        have zx2_9 := Zx2_9.out
        have hsV : V.heap.size = x2_9.heap.size := by rw [← hV]; simp
        have GV : Hid (RelOwn x2_8.heap.size x2_9.heap.size V (.agg #[.int .i64 p0b0, .slice p0a1 p0n1 p0c1, .slice p0a2 p0n2 p0c2, .bool p0b3, .slice p0a4 p0n4 p0c4, .string p0b5, .string p0b6]) L0) := by
          show RelOwn _ _ _ _ _
          rw [← hV]
          exact relOwn_setRow486 Gx2_9.out (q := x2_1.heap.size) (by omega) _
        rw [hV]
        clear hV
        refine hK.out _ _ ?_ (fun hHeld => ?_)
        · exact HC9.out _ KV.out
        clear hK K
        try simp only [Act.put, List.setIfInBounds_toArray, List.set_cons_zero, List.set_cons_succ]
        refine wpAnyH_takeD (i := 12) (d := 11) (v := .bool L1) rfl (by kernel_rfl) (by kernel_rfl) (by kernel_rfl) (fun _ _ _ h => h) (Or.inl ⟨by rfl, by intro w hSw; (try dsimp only at hSw); go_simp⟩) (by assumption) rfl ?_
        simp only [Act.put, List.setIfInBounds_toArray, List.set_cons_zero, List.set_cons_succ]
        refine wpAnyH_done (by kernel_rfl) ?_ _
        go_wp2
        go_meet
        case rel =>
          exact ⟨_, _, _, _, _, _, _, _, _, _, _, _, _, _, _, _, rfl, rfl, NV.out, GV.out, by omega, by omega, by omega, by omega, KV.out, HQ.out⟩
    · skip
      go_simp
      have NA : Hid ((x2_0.alloc (.cells #[.int .i64 0, .slice none 0 0, .slice none 0 0, .bool false, .slice none 0 0, .string ⟨#[]⟩, .string ⟨#[]⟩] 33)).heap[x2_0.heap.size]? = some (.cells #[.int .i64 0, .slice none 0 0, .slice none 0 0, .bool false, .slice none 0 0, .string ⟨#[]⟩, .string ⟨#[]⟩] 33 (0, 0))) := heap_alloc_last _ _
      obtain ⟨x2_10, hx⟩ : ∃ X, x2_0.alloc (.cells #[.int .i64 0, .slice none 0 0, .slice none 0 0, .bool false, .slice none 0 0, .string ⟨#[]⟩, .string ⟨#[]⟩] 33) = X := ⟨_, rfl⟩
      have hb : Below x2_0.heap.size x2_0 x2_10 := by rw [← hx]; exact (Below.refl _ _).alloc (Nat.le_refl _) _
      have Zx2_10 : Hid (x2_0.heap.size < x2_10.heap.size) := by show _ < _; rw [← hx]; simp
      have Nx2_10 : Hid (x2_10.heap[x2_0.heap.size]? = some (.cells #[.int .i64 0, .slice none 0 0, .slice none 0 0, .bool false, .slice none 0 0, .string ⟨#[]⟩, .string ⟨#[]⟩] 33 (0, 0))) := by show _ = _; rw [← hx]; exact NA.out
      have HQ : Hid (w2.heap.size ≤ x2_0.heap.size) := Kx2_0.out.size
      rw [hx]
      clear hx NA
      have Kx2_10 : Hid (Below w2.heap.size w2 x2_10) := Kx2_0.out.trans (hb.mono Kx2_0.out.size)
      clear hb
      refine hK.out _ _ ?_ (fun hHeld => ?_)
      · exact HC9.out _ Kx2_10.out
      clear hK K
      try simp only [Act.put, List.setIfInBounds_toArray, List.set_cons_zero, List.set_cons_succ]
      refine wpAnyH_ready (rs := [3]) (by kernel_rfl) (by simp) ?_
      refine AllReadyH.cons rfl (fun K hK => ?_) AllReadyH.nil
      go_simp
      refine (toBook_u _ _ (xs2, es2) (HA2.out.below (HB2.out.trans (Kx2_10.out.mono HB2.out.size))) HN2.out).mono ?_
      rintro e x2_11 ⟨u2, rfl, ho, hb⟩
      have U2x2_11 : Hid (BookAt x2_11 u2 (xs2, es2)) := ho.at
      clear ho
      have Zx2_11 : Hid (x2_10.heap.size ≤ x2_11.heap.size) := hb.size
      have Kx2_11 : Hid (Below w2.heap.size w2 x2_11) := Kx2_10.out.trans (hb.mono Kx2_10.out.size)
      have Nx2_11 : Hid (x2_11.heap[x2_0.heap.size]? = some (.cells #[.int .i64 0, .slice none 0 0, .slice none 0 0, .bool false, .slice none 0 0, .string ⟨#[]⟩, .string ⟨#[]⟩] 33 (0, 0))) := (hb.block _ (Array.getElem?_eq_some_iff.1 Nx2_10.out).1).trans Nx2_10.out
      clear hb
      refine hK.out _ _ ?_ (fun hHeld => ?_)
      · exact HC9.out _ Kx2_11.out
      clear hK K
      try simp only [Act.put, List.setIfInBounds_toArray, List.set_cons_zero, List.set_cons_succ]
      refine wpAnyH_ready (rs := [5]) (by kernel_rfl) (by simp) ?_
      refine AllReadyH.cons rfl (fun K hK => ?_) AllReadyH.nil
      go_simp
      refine (toBook_u _ _ (xs3, es3) (HA3.out.below (HB2.out.trans (Kx2_11.out.mono HB2.out.size))) HN3.out).mono ?_
      rintro e x2_12 ⟨u3, rfl, ho, hb⟩
      have U3x2_12 : Hid (BookAt x2_12 u3 (xs3, es3)) := ho.at
      clear ho
      have Zx2_12 : Hid (x2_11.heap.size ≤ x2_12.heap.size) := hb.size
      have Kx2_12 : Hid (Below w2.heap.size w2 x2_12) := Kx2_11.out.trans (hb.mono Kx2_11.out.size)
      have Nx2_12 : Hid (x2_12.heap[x2_0.heap.size]? = some (.cells #[.int .i64 0, .slice none 0 0, .slice none 0 0, .bool false, .slice none 0 0, .string ⟨#[]⟩, .string ⟨#[]⟩] 33 (0, 0))) := (hb.block _ (Array.getElem?_eq_some_iff.1 Nx2_11.out).1).trans Nx2_11.out
      have U2x2_12 : Hid (BookAt x2_12 u2 (xs2, es2)) := U2x2_11.out.below hb
      clear hb
      refine hK.out _ _ ?_ (fun hHeld => ?_)
      · exact HC9.out _ Kx2_12.out
      clear hK K
      try simp only [Act.put, List.setIfInBounds_toArray, List.set_cons_zero, List.set_cons_succ]
      refine wpAnyH_ready (rs := [6]) (by kernel_rfl) (by simp) ?_
      refine AllReadyH.cons rfl (fun K hK => ?_) AllReadyH.nil
      go_simp
      refine (HSP.out _ _ _ U2x2_12.out U3x2_12.out (TB0_0.out.below (HB2.out.trans (Kx2_12.out.mono HB2.out.size))) (TB1_0.out.below (HB2.out.trans (Kx2_12.out.mono HB2.out.size))) (TB2_0.out.below (HB2.out.trans (Kx2_12.out.mono HB2.out.size)))).mono ?_
      rintro e x2_13 ⟨p0b0, p0a1, p0n1, p0c1, p0a2, p0n2, p0c2, p0b3, p0a4, p0n4, p0c4, p0b5, p0b6, rfl, hg, hb⟩
      have Gx2_13 : Hid (RelOwn x2_12.heap.size x2_13.heap.size x2_13 (.agg #[.int .i64 p0b0, .slice p0a1 p0n1 p0c1, .slice p0a2 p0n2 p0c2, .bool p0b3, .slice p0a4 p0n4 p0c4, .string p0b5, .string p0b6]) L0) := hg
      clear hg
      have Zx2_13 : Hid (x2_12.heap.size ≤ x2_13.heap.size) := hb.size
      have Kx2_13 : Hid (Below w2.heap.size w2 x2_13) := Kx2_12.out.trans (hb.mono Kx2_12.out.size)
      have Nx2_13 : Hid (x2_13.heap[x2_0.heap.size]? = some (.cells #[.int .i64 0, .slice none 0 0, .slice none 0 0, .bool false, .slice none 0 0, .string ⟨#[]⟩, .string ⟨#[]⟩] 33 (0, 0))) := (hb.block _ (Array.getElem?_eq_some_iff.1 Nx2_12.out).1).trans Nx2_12.out
      have U2x2_13 : Hid (BookAt x2_13 u2 (xs2, es2)) := U2x2_12.out.below hb
      have U3x2_13 : Hid (BookAt x2_13 u3 (xs3, es3)) := U3x2_12.out.below hb
      clear hb
      refine hK.out _ _ ?_ (fun hHeld => ?_)
      · exact HC9.out _ Kx2_13.out
      clear hK K
      try simp only [Act.put, List.setIfInBounds_toArray, List.set_cons_zero, List.set_cons_succ]
      refine wpAnyH_takeD (i := 7) (d := 34) (v := .tuple #[.agg #[.int .i64 p0b0, .slice p0a1 p0n1 p0c1, .slice p0a2 p0n2 p0c2, .bool p0b3, .slice p0a4 p0n4 p0c4, .string p0b5, .string p0b6], .bool L1]) rfl (by kernel_rfl) (by kernel_rfl) (by kernel_rfl) (fun _ _ _ h => h) (Or.inl ⟨by rfl, by intro w hSw; (try dsimp only at hSw); go_simp⟩) (by assumption) rfl ?_
      simp only [Act.put, List.setIfInBounds_toArray, List.set_cons_zero, List.set_cons_succ]
      refine wpAnyH_takeD (i := 8) (d := 42) (v := .agg #[.int .i64 p0b0, .slice p0a1 p0n1 p0c1, .slice p0a2 p0n2 p0c2, .bool p0b3, .slice p0a4 p0n4 p0c4, .string p0b5, .string p0b6]) rfl (by kernel_rfl) (by kernel_rfl) (by kernel_rfl) (fun _ _ _ h => h) (Or.inl ⟨by rfl, by intro w hSw; (try dsimp only at hSw); go_simp⟩) (by assumption) rfl ?_
      simp only [Act.put, List.setIfInBounds_toArray, List.set_cons_zero, List.set_cons_succ]
      refine wpAnyH_takeD (i := 9) (d := 43) (v := .bool L1) rfl (by kernel_rfl) (by kernel_rfl) (by kernel_rfl) (fun _ _ _ h => h) (Or.inl ⟨by rfl, by intro w hSw; (try dsimp only at hSw); go_simp⟩) (by assumption) rfl ?_
      simp only [Act.put, List.setIfInBounds_toArray, List.set_cons_zero, List.set_cons_succ]
      refine wpAnyH_ready (rs := [11]) (by kernel_rfl) (by simp) ?_
      refine AllReadyH.cons rfl (fun K hK => ?_) AllReadyH.nil
      refine step_store_row rfl 33 (.tmp 10) (.tmp 42) rfl (x2_0.heap.size) #[.int .i64 p0b0, .slice p0a1 p0n1 p0c1, .slice p0a2 p0n2 p0c2, .bool p0b3, .slice p0a4 p0n4 p0c4, .string p0b5, .string p0b6] rfl rfl 33 _ Nx2_13.out HS9.out rfl (by simp [Value.oneCell']) rfl ?_
      obtain ⟨V, hV⟩ : ∃ X, x2_13.setRow (x2_0.heap.size) #[.int .i64 p0b0, .slice p0a1 p0n1 p0c1, .slice p0a2 p0n2 p0c2, .bool p0b3, .slice p0a4 p0n4 p0c4, .string p0b5, .string p0b6] = X := ⟨_, rfl⟩
      have KV : Hid (Below w2.heap.size w2 V) := by show Below _ _ _; rw [← hV]; exact below_setRow Kx2_13.out HQ.out _
      have NV : Hid (V.heap[x2_0.heap.size]? = some (.cells #[.int .i64 p0b0, .slice p0a1 p0n1 p0c1, .slice p0a2 p0n2 p0c2, .bool p0b3, .slice p0a4 p0n4 p0c4, .string p0b5, .string p0b6] 33 (0, 0))) := by show _ = _; rw [← hV]; exact setRow_heap _ _ _ _ _ _ Nx2_13.out
      have zx2_0 := Zx2_0.out
      have zx2_10 := Zx2_10.out
      have zx2_11 := Zx2_11.out
      have zx2_12 := Zx2_12.out
      have zx2_13 := Zx2_13.out
      have hsV : V.heap.size = x2_13.heap.size := by rw [← hV]; simp
      have GV : Hid (RelOwn x2_12.heap.size x2_13.heap.size V (.agg #[.int .i64 p0b0, .slice p0a1 p0n1 p0c1, .slice p0a2 p0n2 p0c2, .bool p0b3, .slice p0a4 p0n4 p0c4, .string p0b5, .string p0b6]) L0) := by
        show RelOwn _ _ _ _ _
        rw [← hV]
        exact relOwn_setRow486 Gx2_13.out (q := x2_0.heap.size) (by omega) _
      rw [hV]
      clear hV
      refine hK.out _ _ ?_ (fun hHeld => ?_)
      · exact HC9.out _ KV.out
      clear hK K
      try simp only [Act.put, List.setIfInBounds_toArray, List.set_cons_zero, List.set_cons_succ]
      refine wpAnyH_takeD (i := 12) (d := 11) (v := .bool L1) rfl (by kernel_rfl) (by kernel_rfl) (by kernel_rfl) (fun _ _ _ h => h) (Or.inl ⟨by rfl, by intro w hSw; (try dsimp only at hSw); go_simp⟩) (by assumption) rfl ?_
      simp only [Act.put, List.setIfInBounds_toArray, List.set_cons_zero, List.set_cons_succ]
      refine wpAnyH_done (by kernel_rfl) ?_ _
      go_wp2
      go_meet
      case rel =>
        exact ⟨_, _, _, _, _, _, _, _, _, _, _, _, _, _, _, _, rfl, rfl, NV.out, GV.out, by omega, by omega, by omega, by omega, KV.out, HQ.out⟩
  case rest =>
    obtain ⟨w3, hw3⟩ : ∃ x, x = wc := ⟨_, rfl⟩
    subst hw3
    obtain ⟨B3, lo3, hi3, p0b0, p0a1, p0n1, p0c1, p0a2, p0n2, p0c2, p0b3, p0a4, p0n4, p0c4, p0b5, p0b6, hp3, hv3_0, hr3, ha3, hl13, hl23, hl33, hl43, hh3, hl3⟩ := hcut
    subst hp3
    subst hv3_0
    have HB3 : Hid (Below w.heap.size w w3) := HB2.out.trans (hh3.mono HB2.out.size)
    have c3_0_0 := (hh3.cell (p := ⟨(w.heap.size), 0, none⟩) hz2_0).trans c2_0_0
    have c3_0_1 := (hh3.cell (p := ⟨(w.heap.size), 1, none⟩) hz2_0).trans c2_0_1
    have hz3_0 : (w.heap.size) < w3.heap.size := Nat.lt_of_lt_of_le hz2_0 hh3.size
    have c3_1_0 := (hh3.cell (p := ⟨(w.heap.size + 1), 0, none⟩) hz2_1).trans c2_1_0
    have c3_1_1 := (hh3.cell (p := ⟨(w.heap.size + 1), 1, none⟩) hz2_1).trans c2_1_1
    have hz3_1 : (w.heap.size + 1) < w3.heap.size := Nat.lt_of_lt_of_le hz2_1 hh3.size
    have c3_2_0 : w3.cell? ⟨B3, 0, none⟩ = some (.int .i64 p0b0) := by rw [cell_of_row _ _ 0 _ _ _ hr3]; rfl
    have c3_2_1 : w3.cell? ⟨B3, 1, none⟩ = some (.slice p0a1 p0n1 p0c1) := by rw [cell_of_row _ _ 1 _ _ _ hr3]; rfl
    have c3_2_2 : w3.cell? ⟨B3, 2, none⟩ = some (.slice p0a2 p0n2 p0c2) := by rw [cell_of_row _ _ 2 _ _ _ hr3]; rfl
    have c3_2_3 : w3.cell? ⟨B3, 3, none⟩ = some (.bool p0b3) := by rw [cell_of_row _ _ 3 _ _ _ hr3]; rfl
    have c3_2_4 : w3.cell? ⟨B3, 4, none⟩ = some (.slice p0a4 p0n4 p0c4) := by rw [cell_of_row _ _ 4 _ _ _ hr3]; rfl
    have c3_2_5 : w3.cell? ⟨B3, 5, none⟩ = some (.string p0b5) := by rw [cell_of_row _ _ 5 _ _ _ hr3]; rfl
    have c3_2_6 : w3.cell? ⟨B3, 6, none⟩ = some (.string p0b6) := by rw [cell_of_row _ _ 6 _ _ _ hr3]; rfl
    have hz3_2 : B3 < w3.heap.size := (Array.getElem?_eq_some_iff.1 hr3).1
    have HZ3 : Hid (w2.heap.size ≤ w3.heap.size ∧ w2.heap.size ≤ B3 ∧ B3 < w3.heap.size ∧ w2.heap.size ≤ lo3 ∧ lo3 ≤ hi3 ∧ hi3 ≤ w3.heap.size ∧ (B3 < lo3 ∨ hi3 ≤ B3)) := ⟨hh3.size, hl3, hz3_2, hl13, hl23, hl33, hl43⟩
    have HU : Hid (RelAt w3 (.agg #[.int .i64 p0b0, .slice p0a1 p0n1 p0c1, .slice p0a2 p0n2 p0c2, .bool p0b3, .slice p0a4 p0n4 p0c4, .string p0b5, .string p0b6]) L0) := ha3.at
    clear c2_0_0 c2_0_1 hz2_0 c2_1_0 c2_1_1 hz2_1 hh3 hr3 ha3 hl3 hl13 hl23 hl33 hl43
    go_wp2_with fail
    refine (toBook_u _ _ (xs2, es2) (HA2.out.below HB3.out) HN2.out).mono ?_
    rintro e w4 ⟨y2, rfl, hu4, hb4⟩
    obtain ⟨y2a0, y2n0, y2c0, y2a1, y2n1, y2c1, rfl⟩ := BookAt.form2 hu4.at
    have hh4 : Below w3.heap.size w3 w4 := hb4
    have HB4 : Hid (Below w.heap.size w w4) := HB3.out.trans (hh4.mono HB3.out.size)
    have BC4 : Hid (Below w3.heap.size w3 w4) := hh4
    have c4_0_0 := (hh4.cell (p := ⟨(w.heap.size), 0, none⟩) hz3_0).trans c3_0_0
    have c4_0_1 := (hh4.cell (p := ⟨(w.heap.size), 1, none⟩) hz3_0).trans c3_0_1
    have hz4_0 : (w.heap.size) < w4.heap.size := Nat.lt_of_lt_of_le hz3_0 hh4.size
    have c4_1_0 := (hh4.cell (p := ⟨(w.heap.size + 1), 0, none⟩) hz3_1).trans c3_1_0
    have c4_1_1 := (hh4.cell (p := ⟨(w.heap.size + 1), 1, none⟩) hz3_1).trans c3_1_1
    have hz4_1 : (w.heap.size + 1) < w4.heap.size := Nat.lt_of_lt_of_le hz3_1 hh4.size
    have c4_2_0 := (hh4.cell (p := ⟨B3, 0, none⟩) hz3_2).trans c3_2_0
    have c4_2_1 := (hh4.cell (p := ⟨B3, 1, none⟩) hz3_2).trans c3_2_1
    have c4_2_2 := (hh4.cell (p := ⟨B3, 2, none⟩) hz3_2).trans c3_2_2
    have c4_2_3 := (hh4.cell (p := ⟨B3, 3, none⟩) hz3_2).trans c3_2_3
    have c4_2_4 := (hh4.cell (p := ⟨B3, 4, none⟩) hz3_2).trans c3_2_4
    have c4_2_5 := (hh4.cell (p := ⟨B3, 5, none⟩) hz3_2).trans c3_2_5
    have c4_2_6 := (hh4.cell (p := ⟨B3, 6, none⟩) hz3_2).trans c3_2_6
    have hz4_2 : B3 < w4.heap.size := Nat.lt_of_lt_of_le hz3_2 hh4.size
    have HZ4 : Hid (w3.heap.size ≤ w4.heap.size) := hh4.size
    clear c3_0_0 c3_0_1 hz3_0 c3_1_0 c3_1_1 hz3_1 c3_2_0 c3_2_1 c3_2_2 c3_2_3 c3_2_4 c3_2_5 c3_2_6 hz3_2 hb4 hh4
    have X2_4 : Hid (BookOwn (w3.heap.size) w4.heap.size w4 (.agg #[.slice y2a0 y2n0 y2c0, .slice y2a1 y2n1 y2c1]) (xs2, es2)) := hu4
    clear hu4
    go_wp2_with fail
    have HX4 : Hid (Below w4.heap.size w4 (w4.alloc (.cells #[.slice y2a0 y2n0 y2c0, .slice y2a1 y2n1 y2c1] 37))) := ((Below.refl _ _).alloc (Nat.le_refl _) _)
    refine (toBook_u _ _ (xs3, es3) (HA3.out.below (HB4.out.trans (Below.mono HX4.out HB4.out.size))) HN3.out).mono ?_
    rintro e w5 ⟨y3, rfl, hu5, hb5⟩
    obtain ⟨y3a0, y3n0, y3c0, y3a1, y3n1, y3c1, rfl⟩ := BookAt.form2 hu5.at
    simp only [World.size_alloc] at hu5
    have hh5 : Below w4.heap.size w4 w5 := Below.trans HX4.out (Below.mono hb5 (Below.size HX4.out))
    have HB5 : Hid (Below w.heap.size w w5) := HB4.out.trans (hh5.mono HB4.out.size)
    have BC5 : Hid (Below w3.heap.size w3 w5) := BC4.out.trans (hh5.mono BC4.out.size)
    have c5_0_0 := (hh5.cell (p := ⟨(w.heap.size), 0, none⟩) hz4_0).trans c4_0_0
    have c5_0_1 := (hh5.cell (p := ⟨(w.heap.size), 1, none⟩) hz4_0).trans c4_0_1
    have hz5_0 : (w.heap.size) < w5.heap.size := Nat.lt_of_lt_of_le hz4_0 hh5.size
    have c5_1_0 := (hh5.cell (p := ⟨(w.heap.size + 1), 0, none⟩) hz4_1).trans c4_1_0
    have c5_1_1 := (hh5.cell (p := ⟨(w.heap.size + 1), 1, none⟩) hz4_1).trans c4_1_1
    have hz5_1 : (w.heap.size + 1) < w5.heap.size := Nat.lt_of_lt_of_le hz4_1 hh5.size
    have c5_2_0 := (hh5.cell (p := ⟨B3, 0, none⟩) hz4_2).trans c4_2_0
    have c5_2_1 := (hh5.cell (p := ⟨B3, 1, none⟩) hz4_2).trans c4_2_1
    have c5_2_2 := (hh5.cell (p := ⟨B3, 2, none⟩) hz4_2).trans c4_2_2
    have c5_2_3 := (hh5.cell (p := ⟨B3, 3, none⟩) hz4_2).trans c4_2_3
    have c5_2_4 := (hh5.cell (p := ⟨B3, 4, none⟩) hz4_2).trans c4_2_4
    have c5_2_5 := (hh5.cell (p := ⟨B3, 5, none⟩) hz4_2).trans c4_2_5
    have c5_2_6 := (hh5.cell (p := ⟨B3, 6, none⟩) hz4_2).trans c4_2_6
    have hz5_2 : B3 < w5.heap.size := Nat.lt_of_lt_of_le hz4_2 hh5.size
    have X2_5 : Hid (BookOwn (w3.heap.size) w4.heap.size w5 (.agg #[.slice y2a0 y2n0 y2c0, .slice y2a1 y2n1 y2c1]) (xs2, es2)) := X2_4.out.below hh5
    have c5_3_0 : w5.cell? ⟨(w4.heap.size), 0, none⟩ = some (.slice y2a0 y2n0 y2c0) := (hb5.cell (p := ⟨(w4.heap.size), 0, none⟩) (by simp <;> omega)).trans (by simp [go_sem])
    have c5_3_1 : w5.cell? ⟨(w4.heap.size), 1, none⟩ = some (.slice y2a1 y2n1 y2c1) := (hb5.cell (p := ⟨(w4.heap.size), 1, none⟩) (by simp <;> omega)).trans (by simp [go_sem])
    have hz5_3 : (w4.heap.size) < w5.heap.size := by have := hb5.size; simp at this; omega
    have HZ5 : Hid (w4.heap.size + 1 ≤ w5.heap.size) := by have := hb5.size; simp at this; show _ ≤ _; omega
    clear c4_0_0 c4_0_1 hz4_0 c4_1_0 c4_1_1 hz4_1 c4_2_0 c4_2_1 c4_2_2 c4_2_3 c4_2_4 c4_2_5 c4_2_6 hz4_2 X2_4 hb5 hh5
    have X3_5 : Hid (BookOwn (w4.heap.size + 1) w5.heap.size w5 (.agg #[.slice y3a0 y3n0 y3c0, .slice y3a1 y3n1 y3c1]) (xs3, es3)) := hu5
    clear hu5
    go_wp2_with fail
    have HX5 : Hid (Below w5.heap.size w5 (w5.alloc (.cells #[.slice y3a0 y3n0 y3c0, .slice y3a1 y3n1 y3c1] 37))) := ((Below.refl _ _).alloc (Nat.le_refl _) _)
    refine (HIM.out _ _ _ ((X2_5.out.below HX5.out)).at ((X3_5.out.below HX5.out)).at (TB0_0.out.below (HB5.out.trans (Below.mono HX5.out HB5.out.size))) (TB1_0.out.below (HB5.out.trans (Below.mono HX5.out HB5.out.size))) (TB2_0.out.below (HB5.out.trans (Below.mono HX5.out HB5.out.size)))).mono ?_
    rintro e w6 ⟨g0b0, g0a1, g0n1, g0c1, g0a2, g0n2, g0c2, g0b3, g0a4, g0n4, g0c4, g0b5, g0b6, rfl, hu6, hb6⟩
    simp only [World.size_alloc] at hu6
    have hh6 : Below w5.heap.size w5 w6 := Below.trans HX5.out (Below.mono hb6 (Below.size HX5.out))
    have HB6 : Hid (Below w.heap.size w w6) := HB5.out.trans (hh6.mono HB5.out.size)
    have BC6 : Hid (Below w3.heap.size w3 w6) := BC5.out.trans (hh6.mono BC5.out.size)
    have c6_0_0 := (hh6.cell (p := ⟨(w.heap.size), 0, none⟩) hz5_0).trans c5_0_0
    have c6_0_1 := (hh6.cell (p := ⟨(w.heap.size), 1, none⟩) hz5_0).trans c5_0_1
    have hz6_0 : (w.heap.size) < w6.heap.size := Nat.lt_of_lt_of_le hz5_0 hh6.size
    have c6_1_0 := (hh6.cell (p := ⟨(w.heap.size + 1), 0, none⟩) hz5_1).trans c5_1_0
    have c6_1_1 := (hh6.cell (p := ⟨(w.heap.size + 1), 1, none⟩) hz5_1).trans c5_1_1
    have hz6_1 : (w.heap.size + 1) < w6.heap.size := Nat.lt_of_lt_of_le hz5_1 hh6.size
    have c6_2_0 := (hh6.cell (p := ⟨B3, 0, none⟩) hz5_2).trans c5_2_0
    have c6_2_1 := (hh6.cell (p := ⟨B3, 1, none⟩) hz5_2).trans c5_2_1
    have c6_2_2 := (hh6.cell (p := ⟨B3, 2, none⟩) hz5_2).trans c5_2_2
    have c6_2_3 := (hh6.cell (p := ⟨B3, 3, none⟩) hz5_2).trans c5_2_3
    have c6_2_4 := (hh6.cell (p := ⟨B3, 4, none⟩) hz5_2).trans c5_2_4
    have c6_2_5 := (hh6.cell (p := ⟨B3, 5, none⟩) hz5_2).trans c5_2_5
    have c6_2_6 := (hh6.cell (p := ⟨B3, 6, none⟩) hz5_2).trans c5_2_6
    have hz6_2 : B3 < w6.heap.size := Nat.lt_of_lt_of_le hz5_2 hh6.size
    have c6_3_0 := (hh6.cell (p := ⟨(w4.heap.size), 0, none⟩) hz5_3).trans c5_3_0
    have c6_3_1 := (hh6.cell (p := ⟨(w4.heap.size), 1, none⟩) hz5_3).trans c5_3_1
    have hz6_3 : (w4.heap.size) < w6.heap.size := Nat.lt_of_lt_of_le hz5_3 hh6.size
    have X2_6 : Hid (BookOwn (w3.heap.size) w4.heap.size w6 (.agg #[.slice y2a0 y2n0 y2c0, .slice y2a1 y2n1 y2c1]) (xs2, es2)) := X2_5.out.below hh6
    have X3_6 : Hid (BookOwn (w4.heap.size + 1) w5.heap.size w6 (.agg #[.slice y3a0 y3n0 y3c0, .slice y3a1 y3n1 y3c1]) (xs3, es3)) := X3_5.out.below hh6
    have c6_4_0 : w6.cell? ⟨(w5.heap.size), 0, none⟩ = some (.slice y3a0 y3n0 y3c0) := (hb6.cell (p := ⟨(w5.heap.size), 0, none⟩) (by simp <;> omega)).trans (by simp [go_sem])
    have c6_4_1 : w6.cell? ⟨(w5.heap.size), 1, none⟩ = some (.slice y3a1 y3n1 y3c1) := (hb6.cell (p := ⟨(w5.heap.size), 1, none⟩) (by simp <;> omega)).trans (by simp [go_sem])
    have hz6_4 : (w5.heap.size) < w6.heap.size := by have := hb6.size; simp at this; omega
    have HZ6 : Hid (w5.heap.size + 1 ≤ w6.heap.size) := by have := hb6.size; simp at this; show _ ≤ _; omega
    clear c5_0_0 c5_0_1 hz5_0 c5_1_0 c5_1_1 hz5_1 c5_2_0 c5_2_1 c5_2_2 c5_2_3 c5_2_4 c5_2_5 c5_2_6 hz5_2 c5_3_0 c5_3_1 hz5_3 X2_5 X3_5 hb6 hh6
    have G_6 : Hid (RelOwn (w5.heap.size + 1) w6.heap.size w6 (.agg #[.int .i64 g0b0, .slice g0a1 g0n1 g0c1, .slice g0a2 g0n2 g0c2, .bool g0b3, .slice g0a4 g0n4 g0c4, .string g0b5, .string g0b6]) L0) := hu6
    clear hu6
    go_wp2_with fail
    have HX6 : Hid (Below w6.heap.size w6 (w6.alloc (.cells #[.int .i64 g0b0, .slice g0a1 g0n1 g0c1, .slice g0a2 g0n2 g0c2, .bool g0b3, .slice g0a4 g0n4 g0c4, .string g0b5, .string g0b6] 33))) := ((Below.refl _ _).alloc (Nat.le_refl _) _)
    refine (eqRel_u _ _ _ L0 ((G_6.out.below HX6.out)).at (HU.out.below (BC6.out.trans (Below.mono HX6.out BC6.out.size)))).mono ?_
    rintro e w7 ⟨rfl, hb7⟩
    have hh7 : Below w6.heap.size w6 w7 := Below.trans HX6.out (Below.mono hb7 (Below.size HX6.out))
    have HB7 : Hid (Below w.heap.size w w7) := HB6.out.trans (hh7.mono HB6.out.size)
    have BC7 : Hid (Below w3.heap.size w3 w7) := BC6.out.trans (hh7.mono BC6.out.size)
    have c7_0_0 := (hh7.cell (p := ⟨(w.heap.size), 0, none⟩) hz6_0).trans c6_0_0
    have c7_0_1 := (hh7.cell (p := ⟨(w.heap.size), 1, none⟩) hz6_0).trans c6_0_1
    have hz7_0 : (w.heap.size) < w7.heap.size := Nat.lt_of_lt_of_le hz6_0 hh7.size
    have c7_1_0 := (hh7.cell (p := ⟨(w.heap.size + 1), 0, none⟩) hz6_1).trans c6_1_0
    have c7_1_1 := (hh7.cell (p := ⟨(w.heap.size + 1), 1, none⟩) hz6_1).trans c6_1_1
    have hz7_1 : (w.heap.size + 1) < w7.heap.size := Nat.lt_of_lt_of_le hz6_1 hh7.size
    have c7_2_0 := (hh7.cell (p := ⟨B3, 0, none⟩) hz6_2).trans c6_2_0
    have c7_2_1 := (hh7.cell (p := ⟨B3, 1, none⟩) hz6_2).trans c6_2_1
    have c7_2_2 := (hh7.cell (p := ⟨B3, 2, none⟩) hz6_2).trans c6_2_2
    have c7_2_3 := (hh7.cell (p := ⟨B3, 3, none⟩) hz6_2).trans c6_2_3
    have c7_2_4 := (hh7.cell (p := ⟨B3, 4, none⟩) hz6_2).trans c6_2_4
    have c7_2_5 := (hh7.cell (p := ⟨B3, 5, none⟩) hz6_2).trans c6_2_5
    have c7_2_6 := (hh7.cell (p := ⟨B3, 6, none⟩) hz6_2).trans c6_2_6
    have hz7_2 : B3 < w7.heap.size := Nat.lt_of_lt_of_le hz6_2 hh7.size
    have c7_3_0 := (hh7.cell (p := ⟨(w4.heap.size), 0, none⟩) hz6_3).trans c6_3_0
    have c7_3_1 := (hh7.cell (p := ⟨(w4.heap.size), 1, none⟩) hz6_3).trans c6_3_1
    have hz7_3 : (w4.heap.size) < w7.heap.size := Nat.lt_of_lt_of_le hz6_3 hh7.size
    have c7_4_0 := (hh7.cell (p := ⟨(w5.heap.size), 0, none⟩) hz6_4).trans c6_4_0
    have c7_4_1 := (hh7.cell (p := ⟨(w5.heap.size), 1, none⟩) hz6_4).trans c6_4_1
    have hz7_4 : (w5.heap.size) < w7.heap.size := Nat.lt_of_lt_of_le hz6_4 hh7.size
    have X2_7 : Hid (BookOwn (w3.heap.size) w4.heap.size w7 (.agg #[.slice y2a0 y2n0 y2c0, .slice y2a1 y2n1 y2c1]) (xs2, es2)) := X2_6.out.below hh7
    have X3_7 : Hid (BookOwn (w4.heap.size + 1) w5.heap.size w7 (.agg #[.slice y3a0 y3n0 y3c0, .slice y3a1 y3n1 y3c1]) (xs3, es3)) := X3_6.out.below hh7
    have G_7 : Hid (RelOwn (w5.heap.size + 1) w6.heap.size w7 (.agg #[.int .i64 g0b0, .slice g0a1 g0n1 g0c1, .slice g0a2 g0n2 g0c2, .bool g0b3, .slice g0a4 g0n4 g0c4, .string g0b5, .string g0b6]) L0) := G_6.out.below hh7
    have c7_5_0 : w7.cell? ⟨(w6.heap.size), 0, none⟩ = some (.int .i64 g0b0) := (hb7.cell (p := ⟨(w6.heap.size), 0, none⟩) (by simp <;> omega)).trans (by simp [go_sem])
    have c7_5_1 : w7.cell? ⟨(w6.heap.size), 1, none⟩ = some (.slice g0a1 g0n1 g0c1) := (hb7.cell (p := ⟨(w6.heap.size), 1, none⟩) (by simp <;> omega)).trans (by simp [go_sem])
    have c7_5_2 : w7.cell? ⟨(w6.heap.size), 2, none⟩ = some (.slice g0a2 g0n2 g0c2) := (hb7.cell (p := ⟨(w6.heap.size), 2, none⟩) (by simp <;> omega)).trans (by simp [go_sem])
    have c7_5_3 : w7.cell? ⟨(w6.heap.size), 3, none⟩ = some (.bool g0b3) := (hb7.cell (p := ⟨(w6.heap.size), 3, none⟩) (by simp <;> omega)).trans (by simp [go_sem])
    have c7_5_4 : w7.cell? ⟨(w6.heap.size), 4, none⟩ = some (.slice g0a4 g0n4 g0c4) := (hb7.cell (p := ⟨(w6.heap.size), 4, none⟩) (by simp <;> omega)).trans (by simp [go_sem])
    have c7_5_5 : w7.cell? ⟨(w6.heap.size), 5, none⟩ = some (.string g0b5) := (hb7.cell (p := ⟨(w6.heap.size), 5, none⟩) (by simp <;> omega)).trans (by simp [go_sem])
    have c7_5_6 : w7.cell? ⟨(w6.heap.size), 6, none⟩ = some (.string g0b6) := (hb7.cell (p := ⟨(w6.heap.size), 6, none⟩) (by simp <;> omega)).trans (by simp [go_sem])
    have hz7_5 : (w6.heap.size) < w7.heap.size := by have := hb7.size; simp at this; omega
    have HZ7 : Hid (w6.heap.size + 1 ≤ w7.heap.size) := by have := hb7.size; simp at this; show _ ≤ _; omega
    clear c6_0_0 c6_0_1 hz6_0 c6_1_0 c6_1_1 hz6_1 c6_2_0 c6_2_1 c6_2_2 c6_2_3 c6_2_4 c6_2_5 c6_2_6 hz6_2 c6_3_0 c6_3_1 hz6_3 c6_4_0 c6_4_1 hz6_4 X2_6 X3_6 G_6 hb7 hh7
    go_wp2_with fail
    go_region_held3 (fun w' => w'.cell? ⟨(w.heap.size), 0, none⟩ = some (va2) ∧ w'.cell? ⟨(w.heap.size), 1, none⟩ = some (ve2) ∧ w'.cell? ⟨(w.heap.size + 1), 0, none⟩ = some (va3) ∧ w'.cell? ⟨(w.heap.size + 1), 1, none⟩ = some (ve3) ∧ w'.cell? ⟨B3, 0, none⟩ = some (.int .i64 p0b0) ∧ w'.cell? ⟨B3, 1, none⟩ = some (.slice p0a1 p0n1 p0c1) ∧ w'.cell? ⟨B3, 2, none⟩ = some (.slice p0a2 p0n2 p0c2) ∧ w'.cell? ⟨B3, 3, none⟩ = some (.bool p0b3) ∧ w'.cell? ⟨B3, 4, none⟩ = some (.slice p0a4 p0n4 p0c4) ∧ w'.cell? ⟨B3, 5, none⟩ = some (.string p0b5) ∧ w'.cell? ⟨B3, 6, none⟩ = some (.string p0b6) ∧ w'.cell? ⟨(w4.heap.size), 0, none⟩ = some (.slice y2a0 y2n0 y2c0) ∧ w'.cell? ⟨(w4.heap.size), 1, none⟩ = some (.slice y2a1 y2n1 y2c1) ∧ w'.cell? ⟨(w5.heap.size), 0, none⟩ = some (.slice y3a0 y3n0 y3c0) ∧ w'.cell? ⟨(w5.heap.size), 1, none⟩ = some (.slice y3a1 y3n1 y3c1) ∧ w'.cell? ⟨(w6.heap.size), 0, none⟩ = some (.int .i64 g0b0) ∧ w'.cell? ⟨(w6.heap.size), 1, none⟩ = some (.slice g0a1 g0n1 g0c1) ∧ w'.cell? ⟨(w6.heap.size), 2, none⟩ = some (.slice g0a2 g0n2 g0c2) ∧ w'.cell? ⟨(w6.heap.size), 3, none⟩ = some (.bool g0b3) ∧ w'.cell? ⟨(w6.heap.size), 4, none⟩ = some (.slice g0a4 g0n4 g0c4) ∧ w'.cell? ⟨(w6.heap.size), 5, none⟩ = some (.string g0b5) ∧ w'.cell? ⟨(w6.heap.size), 6, none⟩ = some (.string g0b6)) (go_keep)
      (first
        | (have qm := HB8; clear qm; go_at_call 10; refine (eqBook_u _ _ _ (xs2, es2) (X2_8.out).at Ub2_8.out).mono ?_; rintro e w9 ⟨rfl, hb9⟩; have hh9 : Below w8.heap.size w8 w9 := hb9; have HB9 : Hid (Below w.heap.size w w9) := HB8.out.trans (hh9.mono HB8.out.size); have BC9 : Hid (Below w3.heap.size w3 w9) := BC8.out.trans (hh9.mono BC8.out.size); have c9_0_0 := (hh9.cell (p := ⟨(w.heap.size), 0, none⟩) hz8_0).trans c8_0_0; have c9_0_1 := (hh9.cell (p := ⟨(w.heap.size), 1, none⟩) hz8_0).trans c8_0_1; have hz9_0 : (w.heap.size) < w9.heap.size := Nat.lt_of_lt_of_le hz8_0 hh9.size; have c9_1_0 := (hh9.cell (p := ⟨(w.heap.size + 1), 0, none⟩) hz8_1).trans c8_1_0; have c9_1_1 := (hh9.cell (p := ⟨(w.heap.size + 1), 1, none⟩) hz8_1).trans c8_1_1; have hz9_1 : (w.heap.size + 1) < w9.heap.size := Nat.lt_of_lt_of_le hz8_1 hh9.size; have c9_2_0 := (hh9.cell (p := ⟨B3, 0, none⟩) hz8_2).trans c8_2_0; have c9_2_1 := (hh9.cell (p := ⟨B3, 1, none⟩) hz8_2).trans c8_2_1; have c9_2_2 := (hh9.cell (p := ⟨B3, 2, none⟩) hz8_2).trans c8_2_2; have c9_2_3 := (hh9.cell (p := ⟨B3, 3, none⟩) hz8_2).trans c8_2_3; have c9_2_4 := (hh9.cell (p := ⟨B3, 4, none⟩) hz8_2).trans c8_2_4; have c9_2_5 := (hh9.cell (p := ⟨B3, 5, none⟩) hz8_2).trans c8_2_5; have c9_2_6 := (hh9.cell (p := ⟨B3, 6, none⟩) hz8_2).trans c8_2_6; have hz9_2 : B3 < w9.heap.size := Nat.lt_of_lt_of_le hz8_2 hh9.size; have c9_3_0 := (hh9.cell (p := ⟨(w4.heap.size), 0, none⟩) hz8_3).trans c8_3_0; have c9_3_1 := (hh9.cell (p := ⟨(w4.heap.size), 1, none⟩) hz8_3).trans c8_3_1; have hz9_3 : (w4.heap.size) < w9.heap.size := Nat.lt_of_lt_of_le hz8_3 hh9.size; have c9_4_0 := (hh9.cell (p := ⟨(w5.heap.size), 0, none⟩) hz8_4).trans c8_4_0; have c9_4_1 := (hh9.cell (p := ⟨(w5.heap.size), 1, none⟩) hz8_4).trans c8_4_1; have hz9_4 : (w5.heap.size) < w9.heap.size := Nat.lt_of_lt_of_le hz8_4 hh9.size; have c9_5_0 := (hh9.cell (p := ⟨(w6.heap.size), 0, none⟩) hz8_5).trans c8_5_0; have c9_5_1 := (hh9.cell (p := ⟨(w6.heap.size), 1, none⟩) hz8_5).trans c8_5_1; have c9_5_2 := (hh9.cell (p := ⟨(w6.heap.size), 2, none⟩) hz8_5).trans c8_5_2; have c9_5_3 := (hh9.cell (p := ⟨(w6.heap.size), 3, none⟩) hz8_5).trans c8_5_3; have c9_5_4 := (hh9.cell (p := ⟨(w6.heap.size), 4, none⟩) hz8_5).trans c8_5_4; have c9_5_5 := (hh9.cell (p := ⟨(w6.heap.size), 5, none⟩) hz8_5).trans c8_5_5; have c9_5_6 := (hh9.cell (p := ⟨(w6.heap.size), 6, none⟩) hz8_5).trans c8_5_6; have hz9_5 : (w6.heap.size) < w9.heap.size := Nat.lt_of_lt_of_le hz8_5 hh9.size; have X2_9 : Hid (BookOwn (w3.heap.size) w4.heap.size w9 (.agg #[.slice y2a0 y2n0 y2c0, .slice y2a1 y2n1 y2c1]) (xs2, es2)) := X2_8.out.below hh9; have X3_9 : Hid (BookOwn (w4.heap.size + 1) w5.heap.size w9 (.agg #[.slice y3a0 y3n0 y3c0, .slice y3a1 y3n1 y3c1]) (xs3, es3)) := X3_8.out.below hh9; have G_9 : Hid (RelOwn (w5.heap.size + 1) w6.heap.size w9 (.agg #[.int .i64 g0b0, .slice g0a1 g0n1 g0c1, .slice g0a2 g0n2 g0c2, .bool g0b3, .slice g0a4 g0n4 g0c4, .string g0b5, .string g0b6]) L0) := G_8.out.below hh9; have Ub2_9 : Hid (BookAt w9 (ub2) (xs2, es2)) := Ub2_8.out.below hh9; have HZ9 : Hid (w8.heap.size ≤ w9.heap.size) := hh9.size; clear c8_0_0 c8_0_1 hz8_0 c8_1_0 c8_1_1 hz8_1 c8_2_0 c8_2_1 c8_2_2 c8_2_3 c8_2_4 c8_2_5 c8_2_6 hz8_2 c8_3_0 c8_3_1 hz8_3 c8_4_0 c8_4_1 hz8_4 c8_5_0 c8_5_1 c8_5_2 c8_5_3 c8_5_4 c8_5_5 c8_5_6 hz8_5 X2_8 X3_8 G_8 Ub2_8 hb9 hh9)
        | (go_at_call 7; refine (toBook_u _ _ (xs2, es2) (HA2.out.below (HB7.out.trans (Below.mono (Below.drew (Below.refl w7.heap.size w7)) HB7.out.size))) HN2.out).mono ?_; rintro e w8 ⟨ub2, rfl, hu8, hb8⟩; have hh8 : Below w7.heap.size w7 w8 := Below.trans (Below.drew (Below.refl w7.heap.size w7)) (Below.mono hb8 (Below.size (Below.drew (Below.refl w7.heap.size w7)))); have HB8 : Hid (Below w.heap.size w w8) := HB7.out.trans (hh8.mono HB7.out.size); have BC8 : Hid (Below w3.heap.size w3 w8) := BC7.out.trans (hh8.mono BC7.out.size); have c8_0_0 := (hh8.cell (p := ⟨(w.heap.size), 0, none⟩) hz7_0).trans c7_0_0; have c8_0_1 := (hh8.cell (p := ⟨(w.heap.size), 1, none⟩) hz7_0).trans c7_0_1; have hz8_0 : (w.heap.size) < w8.heap.size := Nat.lt_of_lt_of_le hz7_0 hh8.size; have c8_1_0 := (hh8.cell (p := ⟨(w.heap.size + 1), 0, none⟩) hz7_1).trans c7_1_0; have c8_1_1 := (hh8.cell (p := ⟨(w.heap.size + 1), 1, none⟩) hz7_1).trans c7_1_1; have hz8_1 : (w.heap.size + 1) < w8.heap.size := Nat.lt_of_lt_of_le hz7_1 hh8.size; have c8_2_0 := (hh8.cell (p := ⟨B3, 0, none⟩) hz7_2).trans c7_2_0; have c8_2_1 := (hh8.cell (p := ⟨B3, 1, none⟩) hz7_2).trans c7_2_1; have c8_2_2 := (hh8.cell (p := ⟨B3, 2, none⟩) hz7_2).trans c7_2_2; have c8_2_3 := (hh8.cell (p := ⟨B3, 3, none⟩) hz7_2).trans c7_2_3; have c8_2_4 := (hh8.cell (p := ⟨B3, 4, none⟩) hz7_2).trans c7_2_4; have c8_2_5 := (hh8.cell (p := ⟨B3, 5, none⟩) hz7_2).trans c7_2_5; have c8_2_6 := (hh8.cell (p := ⟨B3, 6, none⟩) hz7_2).trans c7_2_6; have hz8_2 : B3 < w8.heap.size := Nat.lt_of_lt_of_le hz7_2 hh8.size; have c8_3_0 := (hh8.cell (p := ⟨(w4.heap.size), 0, none⟩) hz7_3).trans c7_3_0; have c8_3_1 := (hh8.cell (p := ⟨(w4.heap.size), 1, none⟩) hz7_3).trans c7_3_1; have hz8_3 : (w4.heap.size) < w8.heap.size := Nat.lt_of_lt_of_le hz7_3 hh8.size; have c8_4_0 := (hh8.cell (p := ⟨(w5.heap.size), 0, none⟩) hz7_4).trans c7_4_0; have c8_4_1 := (hh8.cell (p := ⟨(w5.heap.size), 1, none⟩) hz7_4).trans c7_4_1; have hz8_4 : (w5.heap.size) < w8.heap.size := Nat.lt_of_lt_of_le hz7_4 hh8.size; have c8_5_0 := (hh8.cell (p := ⟨(w6.heap.size), 0, none⟩) hz7_5).trans c7_5_0; have c8_5_1 := (hh8.cell (p := ⟨(w6.heap.size), 1, none⟩) hz7_5).trans c7_5_1; have c8_5_2 := (hh8.cell (p := ⟨(w6.heap.size), 2, none⟩) hz7_5).trans c7_5_2; have c8_5_3 := (hh8.cell (p := ⟨(w6.heap.size), 3, none⟩) hz7_5).trans c7_5_3; have c8_5_4 := (hh8.cell (p := ⟨(w6.heap.size), 4, none⟩) hz7_5).trans c7_5_4; have c8_5_5 := (hh8.cell (p := ⟨(w6.heap.size), 5, none⟩) hz7_5).trans c7_5_5; have c8_5_6 := (hh8.cell (p := ⟨(w6.heap.size), 6, none⟩) hz7_5).trans c7_5_6; have hz8_5 : (w6.heap.size) < w8.heap.size := Nat.lt_of_lt_of_le hz7_5 hh8.size; have X2_8 : Hid (BookOwn (w3.heap.size) w4.heap.size w8 (.agg #[.slice y2a0 y2n0 y2c0, .slice y2a1 y2n1 y2c1]) (xs2, es2)) := X2_7.out.below hh8; have X3_8 : Hid (BookOwn (w4.heap.size + 1) w5.heap.size w8 (.agg #[.slice y3a0 y3n0 y3c0, .slice y3a1 y3n1 y3c1]) (xs3, es3)) := X3_7.out.below hh8; have G_8 : Hid (RelOwn (w5.heap.size + 1) w6.heap.size w8 (.agg #[.int .i64 g0b0, .slice g0a1 g0n1 g0c1, .slice g0a2 g0n2 g0c2, .bool g0b3, .slice g0a4 g0n4 g0c4, .string g0b5, .string g0b6]) L0) := G_7.out.below hh8; have HZ8 : Hid (w7.heap.size ≤ w8.heap.size) := hh8.size; clear c7_0_0 c7_0_1 hz7_0 c7_1_0 c7_1_1 hz7_1 c7_2_0 c7_2_1 c7_2_2 c7_2_3 c7_2_4 c7_2_5 c7_2_6 hz7_2 c7_3_0 c7_3_1 hz7_3 c7_4_0 c7_4_1 hz7_4 c7_5_0 c7_5_1 c7_5_2 c7_5_3 c7_5_4 c7_5_5 c7_5_6 hz7_5 X2_7 X3_7 G_7 hb8 hh8; have Ub2_8 : Hid (BookAt w8 (ub2) (xs2, es2)) := hu8.at; clear hu8))
    go_wp2_with fail
    go_region_held3 (fun w' => w'.cell? ⟨(w.heap.size), 0, none⟩ = some (va2) ∧ w'.cell? ⟨(w.heap.size), 1, none⟩ = some (ve2) ∧ w'.cell? ⟨(w.heap.size + 1), 0, none⟩ = some (va3) ∧ w'.cell? ⟨(w.heap.size + 1), 1, none⟩ = some (ve3) ∧ w'.cell? ⟨B3, 0, none⟩ = some (.int .i64 p0b0) ∧ w'.cell? ⟨B3, 1, none⟩ = some (.slice p0a1 p0n1 p0c1) ∧ w'.cell? ⟨B3, 2, none⟩ = some (.slice p0a2 p0n2 p0c2) ∧ w'.cell? ⟨B3, 3, none⟩ = some (.bool p0b3) ∧ w'.cell? ⟨B3, 4, none⟩ = some (.slice p0a4 p0n4 p0c4) ∧ w'.cell? ⟨B3, 5, none⟩ = some (.string p0b5) ∧ w'.cell? ⟨B3, 6, none⟩ = some (.string p0b6) ∧ w'.cell? ⟨(w4.heap.size), 0, none⟩ = some (.slice y2a0 y2n0 y2c0) ∧ w'.cell? ⟨(w4.heap.size), 1, none⟩ = some (.slice y2a1 y2n1 y2c1) ∧ w'.cell? ⟨(w5.heap.size), 0, none⟩ = some (.slice y3a0 y3n0 y3c0) ∧ w'.cell? ⟨(w5.heap.size), 1, none⟩ = some (.slice y3a1 y3n1 y3c1) ∧ w'.cell? ⟨(w6.heap.size), 0, none⟩ = some (.int .i64 g0b0) ∧ w'.cell? ⟨(w6.heap.size), 1, none⟩ = some (.slice g0a1 g0n1 g0c1) ∧ w'.cell? ⟨(w6.heap.size), 2, none⟩ = some (.slice g0a2 g0n2 g0c2) ∧ w'.cell? ⟨(w6.heap.size), 3, none⟩ = some (.bool g0b3) ∧ w'.cell? ⟨(w6.heap.size), 4, none⟩ = some (.slice g0a4 g0n4 g0c4) ∧ w'.cell? ⟨(w6.heap.size), 5, none⟩ = some (.string g0b5) ∧ w'.cell? ⟨(w6.heap.size), 6, none⟩ = some (.string g0b6)) (go_keep)
      (first
        | (have qm := HB10; clear qm; go_at_call 10; refine (eqBook_u _ _ _ (xs3, es3) (X3_10.out).at Ub3_10.out).mono ?_; rintro e w11 ⟨rfl, hb11⟩; have hh11 : Below w10.heap.size w10 w11 := hb11; have HB11 : Hid (Below w.heap.size w w11) := HB10.out.trans (hh11.mono HB10.out.size); have BC11 : Hid (Below w3.heap.size w3 w11) := BC10.out.trans (hh11.mono BC10.out.size); have c11_0_0 := (hh11.cell (p := ⟨(w.heap.size), 0, none⟩) hz10_0).trans c10_0_0; have c11_0_1 := (hh11.cell (p := ⟨(w.heap.size), 1, none⟩) hz10_0).trans c10_0_1; have hz11_0 : (w.heap.size) < w11.heap.size := Nat.lt_of_lt_of_le hz10_0 hh11.size; have c11_1_0 := (hh11.cell (p := ⟨(w.heap.size + 1), 0, none⟩) hz10_1).trans c10_1_0; have c11_1_1 := (hh11.cell (p := ⟨(w.heap.size + 1), 1, none⟩) hz10_1).trans c10_1_1; have hz11_1 : (w.heap.size + 1) < w11.heap.size := Nat.lt_of_lt_of_le hz10_1 hh11.size; have c11_2_0 := (hh11.cell (p := ⟨B3, 0, none⟩) hz10_2).trans c10_2_0; have c11_2_1 := (hh11.cell (p := ⟨B3, 1, none⟩) hz10_2).trans c10_2_1; have c11_2_2 := (hh11.cell (p := ⟨B3, 2, none⟩) hz10_2).trans c10_2_2; have c11_2_3 := (hh11.cell (p := ⟨B3, 3, none⟩) hz10_2).trans c10_2_3; have c11_2_4 := (hh11.cell (p := ⟨B3, 4, none⟩) hz10_2).trans c10_2_4; have c11_2_5 := (hh11.cell (p := ⟨B3, 5, none⟩) hz10_2).trans c10_2_5; have c11_2_6 := (hh11.cell (p := ⟨B3, 6, none⟩) hz10_2).trans c10_2_6; have hz11_2 : B3 < w11.heap.size := Nat.lt_of_lt_of_le hz10_2 hh11.size; have c11_3_0 := (hh11.cell (p := ⟨(w4.heap.size), 0, none⟩) hz10_3).trans c10_3_0; have c11_3_1 := (hh11.cell (p := ⟨(w4.heap.size), 1, none⟩) hz10_3).trans c10_3_1; have hz11_3 : (w4.heap.size) < w11.heap.size := Nat.lt_of_lt_of_le hz10_3 hh11.size; have c11_4_0 := (hh11.cell (p := ⟨(w5.heap.size), 0, none⟩) hz10_4).trans c10_4_0; have c11_4_1 := (hh11.cell (p := ⟨(w5.heap.size), 1, none⟩) hz10_4).trans c10_4_1; have hz11_4 : (w5.heap.size) < w11.heap.size := Nat.lt_of_lt_of_le hz10_4 hh11.size; have c11_5_0 := (hh11.cell (p := ⟨(w6.heap.size), 0, none⟩) hz10_5).trans c10_5_0; have c11_5_1 := (hh11.cell (p := ⟨(w6.heap.size), 1, none⟩) hz10_5).trans c10_5_1; have c11_5_2 := (hh11.cell (p := ⟨(w6.heap.size), 2, none⟩) hz10_5).trans c10_5_2; have c11_5_3 := (hh11.cell (p := ⟨(w6.heap.size), 3, none⟩) hz10_5).trans c10_5_3; have c11_5_4 := (hh11.cell (p := ⟨(w6.heap.size), 4, none⟩) hz10_5).trans c10_5_4; have c11_5_5 := (hh11.cell (p := ⟨(w6.heap.size), 5, none⟩) hz10_5).trans c10_5_5; have c11_5_6 := (hh11.cell (p := ⟨(w6.heap.size), 6, none⟩) hz10_5).trans c10_5_6; have hz11_5 : (w6.heap.size) < w11.heap.size := Nat.lt_of_lt_of_le hz10_5 hh11.size; have X2_11 : Hid (BookOwn (w3.heap.size) w4.heap.size w11 (.agg #[.slice y2a0 y2n0 y2c0, .slice y2a1 y2n1 y2c1]) (xs2, es2)) := X2_10.out.below hh11; have X3_11 : Hid (BookOwn (w4.heap.size + 1) w5.heap.size w11 (.agg #[.slice y3a0 y3n0 y3c0, .slice y3a1 y3n1 y3c1]) (xs3, es3)) := X3_10.out.below hh11; have G_11 : Hid (RelOwn (w5.heap.size + 1) w6.heap.size w11 (.agg #[.int .i64 g0b0, .slice g0a1 g0n1 g0c1, .slice g0a2 g0n2 g0c2, .bool g0b3, .slice g0a4 g0n4 g0c4, .string g0b5, .string g0b6]) L0) := G_10.out.below hh11; have Ub3_11 : Hid (BookAt w11 (ub3) (xs3, es3)) := Ub3_10.out.below hh11; have HZ11 : Hid (w10.heap.size ≤ w11.heap.size) := hh11.size; clear c10_0_0 c10_0_1 hz10_0 c10_1_0 c10_1_1 hz10_1 c10_2_0 c10_2_1 c10_2_2 c10_2_3 c10_2_4 c10_2_5 c10_2_6 hz10_2 c10_3_0 c10_3_1 hz10_3 c10_4_0 c10_4_1 hz10_4 c10_5_0 c10_5_1 c10_5_2 c10_5_3 c10_5_4 c10_5_5 c10_5_6 hz10_5 X2_10 X3_10 G_10 Ub3_10 hb11 hh11)
        | (go_at_call 7; refine (toBook_u _ _ (xs3, es3) (HA3.out.below (HB9.out.trans (Below.mono (Below.drew (Below.refl w9.heap.size w9)) HB9.out.size))) HN3.out).mono ?_; rintro e w10 ⟨ub3, rfl, hu10, hb10⟩; have hh10 : Below w9.heap.size w9 w10 := Below.trans (Below.drew (Below.refl w9.heap.size w9)) (Below.mono hb10 (Below.size (Below.drew (Below.refl w9.heap.size w9)))); have HB10 : Hid (Below w.heap.size w w10) := HB9.out.trans (hh10.mono HB9.out.size); have BC10 : Hid (Below w3.heap.size w3 w10) := BC9.out.trans (hh10.mono BC9.out.size); have c10_0_0 := (hh10.cell (p := ⟨(w.heap.size), 0, none⟩) hz9_0).trans c9_0_0; have c10_0_1 := (hh10.cell (p := ⟨(w.heap.size), 1, none⟩) hz9_0).trans c9_0_1; have hz10_0 : (w.heap.size) < w10.heap.size := Nat.lt_of_lt_of_le hz9_0 hh10.size; have c10_1_0 := (hh10.cell (p := ⟨(w.heap.size + 1), 0, none⟩) hz9_1).trans c9_1_0; have c10_1_1 := (hh10.cell (p := ⟨(w.heap.size + 1), 1, none⟩) hz9_1).trans c9_1_1; have hz10_1 : (w.heap.size + 1) < w10.heap.size := Nat.lt_of_lt_of_le hz9_1 hh10.size; have c10_2_0 := (hh10.cell (p := ⟨B3, 0, none⟩) hz9_2).trans c9_2_0; have c10_2_1 := (hh10.cell (p := ⟨B3, 1, none⟩) hz9_2).trans c9_2_1; have c10_2_2 := (hh10.cell (p := ⟨B3, 2, none⟩) hz9_2).trans c9_2_2; have c10_2_3 := (hh10.cell (p := ⟨B3, 3, none⟩) hz9_2).trans c9_2_3; have c10_2_4 := (hh10.cell (p := ⟨B3, 4, none⟩) hz9_2).trans c9_2_4; have c10_2_5 := (hh10.cell (p := ⟨B3, 5, none⟩) hz9_2).trans c9_2_5; have c10_2_6 := (hh10.cell (p := ⟨B3, 6, none⟩) hz9_2).trans c9_2_6; have hz10_2 : B3 < w10.heap.size := Nat.lt_of_lt_of_le hz9_2 hh10.size; have c10_3_0 := (hh10.cell (p := ⟨(w4.heap.size), 0, none⟩) hz9_3).trans c9_3_0; have c10_3_1 := (hh10.cell (p := ⟨(w4.heap.size), 1, none⟩) hz9_3).trans c9_3_1; have hz10_3 : (w4.heap.size) < w10.heap.size := Nat.lt_of_lt_of_le hz9_3 hh10.size; have c10_4_0 := (hh10.cell (p := ⟨(w5.heap.size), 0, none⟩) hz9_4).trans c9_4_0; have c10_4_1 := (hh10.cell (p := ⟨(w5.heap.size), 1, none⟩) hz9_4).trans c9_4_1; have hz10_4 : (w5.heap.size) < w10.heap.size := Nat.lt_of_lt_of_le hz9_4 hh10.size; have c10_5_0 := (hh10.cell (p := ⟨(w6.heap.size), 0, none⟩) hz9_5).trans c9_5_0; have c10_5_1 := (hh10.cell (p := ⟨(w6.heap.size), 1, none⟩) hz9_5).trans c9_5_1; have c10_5_2 := (hh10.cell (p := ⟨(w6.heap.size), 2, none⟩) hz9_5).trans c9_5_2; have c10_5_3 := (hh10.cell (p := ⟨(w6.heap.size), 3, none⟩) hz9_5).trans c9_5_3; have c10_5_4 := (hh10.cell (p := ⟨(w6.heap.size), 4, none⟩) hz9_5).trans c9_5_4; have c10_5_5 := (hh10.cell (p := ⟨(w6.heap.size), 5, none⟩) hz9_5).trans c9_5_5; have c10_5_6 := (hh10.cell (p := ⟨(w6.heap.size), 6, none⟩) hz9_5).trans c9_5_6; have hz10_5 : (w6.heap.size) < w10.heap.size := Nat.lt_of_lt_of_le hz9_5 hh10.size; have X2_10 : Hid (BookOwn (w3.heap.size) w4.heap.size w10 (.agg #[.slice y2a0 y2n0 y2c0, .slice y2a1 y2n1 y2c1]) (xs2, es2)) := X2_9.out.below hh10; have X3_10 : Hid (BookOwn (w4.heap.size + 1) w5.heap.size w10 (.agg #[.slice y3a0 y3n0 y3c0, .slice y3a1 y3n1 y3c1]) (xs3, es3)) := X3_9.out.below hh10; have G_10 : Hid (RelOwn (w5.heap.size + 1) w6.heap.size w10 (.agg #[.int .i64 g0b0, .slice g0a1 g0n1 g0c1, .slice g0a2 g0n2 g0c2, .bool g0b3, .slice g0a4 g0n4 g0c4, .string g0b5, .string g0b6]) L0) := G_9.out.below hh10; have HZ10 : Hid (w9.heap.size ≤ w10.heap.size) := hh10.size; clear c9_0_0 c9_0_1 hz9_0 c9_1_0 c9_1_1 hz9_1 c9_2_0 c9_2_1 c9_2_2 c9_2_3 c9_2_4 c9_2_5 c9_2_6 hz9_2 c9_3_0 c9_3_1 hz9_3 c9_4_0 c9_4_1 hz9_4 c9_5_0 c9_5_1 c9_5_2 c9_5_3 c9_5_4 c9_5_5 c9_5_6 hz9_5 X2_9 X3_9 G_9 hb10 hh10; have Ub3_10 : Hid (BookAt w10 (ub3) (xs3, es3)) := hu10.at; clear hu10))
    go_wp2_with fail
    have hk0 : (1 : Nat) ≤ 1 := Nat.le_refl _
    obtain ⟨k2, hk2⟩ : ∃ K : Nat, 1 + bookCnt (xs2, es2) = K := ⟨_, rfl⟩
    have sm2 := HN2.out
    have hc2 : bookCnt (xs2, es2) ≤ 40000000 := by unfold BookSm at sm2; unfold bookCnt; omega
    clear sm2
    refine (cK (markBook_u (w3.heap.size) w4.heap.size 1 _ _ (xs2, es2) X2_11.out HN2.out (by omega) (by have z1 := HZ1.out; have z2 := HZ2.out; have z3 := HZ3.out; have z4 := HZ4.out; have z5 := HZ5.out; have z6 := HZ6.out; have z7 := HZ7.out; have z8 := HZ8.out; have z9 := HZ9.out; have z10 := HZ10.out; have z11 := HZ11.out; omega) (by have z1 := HZ1.out; have z2 := HZ2.out; have z3 := HZ3.out; have z4 := HZ4.out; have z5 := HZ5.out; have z6 := HZ6.out; have z7 := HZ7.out; have z8 := HZ8.out; have z9 := HZ9.out; have z10 := HZ10.out; have z11 := HZ11.out; omega)) hk2).mono ?_
    rintro e w12 ⟨rfl, _, hw12⟩
    have HB12 : Hid (Below w.heap.size w w12) := HB11.out.trans (hw12.1.mono (show w.heap.size ≤ (w3.heap.size) from (by have z1 := HZ1.out; have z2 := HZ2.out; have z3 := HZ3.out; have z4 := HZ4.out; have z5 := HZ5.out; have z6 := HZ6.out; have z7 := HZ7.out; have z8 := HZ8.out; have z9 := HZ9.out; have z10 := HZ10.out; have z11 := HZ11.out; omega)))
    have BC12 : Hid (Below w3.heap.size w3 w12) := BC11.out.trans (hw12.1.mono (show w3.heap.size ≤ (w3.heap.size) from (by have z1 := HZ1.out; have z2 := HZ2.out; have z3 := HZ3.out; have z4 := HZ4.out; have z5 := HZ5.out; have z6 := HZ6.out; have z7 := HZ7.out; have z8 := HZ8.out; have z9 := HZ9.out; have z10 := HZ10.out; have z11 := HZ11.out; omega)))
    have c12_0_0 := (wr_cell hw12 (b := (w.heap.size)) 0 (by have z1 := HZ1.out; have z2 := HZ2.out; have z3 := HZ3.out; have z4 := HZ4.out; have z5 := HZ5.out; have z6 := HZ6.out; have z7 := HZ7.out; have z8 := HZ8.out; have z9 := HZ9.out; have z10 := HZ10.out; have z11 := HZ11.out; omega) hz11_0).trans c11_0_0
    have c12_0_1 := (wr_cell hw12 (b := (w.heap.size)) 1 (by have z1 := HZ1.out; have z2 := HZ2.out; have z3 := HZ3.out; have z4 := HZ4.out; have z5 := HZ5.out; have z6 := HZ6.out; have z7 := HZ7.out; have z8 := HZ8.out; have z9 := HZ9.out; have z10 := HZ10.out; have z11 := HZ11.out; omega) hz11_0).trans c11_0_1
    have hz12_0 : (w.heap.size) < w12.heap.size := Nat.lt_of_lt_of_le hz11_0 hw12.sz
    have c12_1_0 := (wr_cell hw12 (b := (w.heap.size + 1)) 0 (by have z1 := HZ1.out; have z2 := HZ2.out; have z3 := HZ3.out; have z4 := HZ4.out; have z5 := HZ5.out; have z6 := HZ6.out; have z7 := HZ7.out; have z8 := HZ8.out; have z9 := HZ9.out; have z10 := HZ10.out; have z11 := HZ11.out; omega) hz11_1).trans c11_1_0
    have c12_1_1 := (wr_cell hw12 (b := (w.heap.size + 1)) 1 (by have z1 := HZ1.out; have z2 := HZ2.out; have z3 := HZ3.out; have z4 := HZ4.out; have z5 := HZ5.out; have z6 := HZ6.out; have z7 := HZ7.out; have z8 := HZ8.out; have z9 := HZ9.out; have z10 := HZ10.out; have z11 := HZ11.out; omega) hz11_1).trans c11_1_1
    have hz12_1 : (w.heap.size + 1) < w12.heap.size := Nat.lt_of_lt_of_le hz11_1 hw12.sz
    have c12_2_0 := (wr_cell hw12 (b := B3) 0 (by have z1 := HZ1.out; have z2 := HZ2.out; have z3 := HZ3.out; have z4 := HZ4.out; have z5 := HZ5.out; have z6 := HZ6.out; have z7 := HZ7.out; have z8 := HZ8.out; have z9 := HZ9.out; have z10 := HZ10.out; have z11 := HZ11.out; omega) hz11_2).trans c11_2_0
    have c12_2_1 := (wr_cell hw12 (b := B3) 1 (by have z1 := HZ1.out; have z2 := HZ2.out; have z3 := HZ3.out; have z4 := HZ4.out; have z5 := HZ5.out; have z6 := HZ6.out; have z7 := HZ7.out; have z8 := HZ8.out; have z9 := HZ9.out; have z10 := HZ10.out; have z11 := HZ11.out; omega) hz11_2).trans c11_2_1
    have c12_2_2 := (wr_cell hw12 (b := B3) 2 (by have z1 := HZ1.out; have z2 := HZ2.out; have z3 := HZ3.out; have z4 := HZ4.out; have z5 := HZ5.out; have z6 := HZ6.out; have z7 := HZ7.out; have z8 := HZ8.out; have z9 := HZ9.out; have z10 := HZ10.out; have z11 := HZ11.out; omega) hz11_2).trans c11_2_2
    have c12_2_3 := (wr_cell hw12 (b := B3) 3 (by have z1 := HZ1.out; have z2 := HZ2.out; have z3 := HZ3.out; have z4 := HZ4.out; have z5 := HZ5.out; have z6 := HZ6.out; have z7 := HZ7.out; have z8 := HZ8.out; have z9 := HZ9.out; have z10 := HZ10.out; have z11 := HZ11.out; omega) hz11_2).trans c11_2_3
    have c12_2_4 := (wr_cell hw12 (b := B3) 4 (by have z1 := HZ1.out; have z2 := HZ2.out; have z3 := HZ3.out; have z4 := HZ4.out; have z5 := HZ5.out; have z6 := HZ6.out; have z7 := HZ7.out; have z8 := HZ8.out; have z9 := HZ9.out; have z10 := HZ10.out; have z11 := HZ11.out; omega) hz11_2).trans c11_2_4
    have c12_2_5 := (wr_cell hw12 (b := B3) 5 (by have z1 := HZ1.out; have z2 := HZ2.out; have z3 := HZ3.out; have z4 := HZ4.out; have z5 := HZ5.out; have z6 := HZ6.out; have z7 := HZ7.out; have z8 := HZ8.out; have z9 := HZ9.out; have z10 := HZ10.out; have z11 := HZ11.out; omega) hz11_2).trans c11_2_5
    have c12_2_6 := (wr_cell hw12 (b := B3) 6 (by have z1 := HZ1.out; have z2 := HZ2.out; have z3 := HZ3.out; have z4 := HZ4.out; have z5 := HZ5.out; have z6 := HZ6.out; have z7 := HZ7.out; have z8 := HZ8.out; have z9 := HZ9.out; have z10 := HZ10.out; have z11 := HZ11.out; omega) hz11_2).trans c11_2_6
    have hz12_2 : B3 < w12.heap.size := Nat.lt_of_lt_of_le hz11_2 hw12.sz
    have c12_3_0 := (wr_cell hw12 (b := (w4.heap.size)) 0 (by have z1 := HZ1.out; have z2 := HZ2.out; have z3 := HZ3.out; have z4 := HZ4.out; have z5 := HZ5.out; have z6 := HZ6.out; have z7 := HZ7.out; have z8 := HZ8.out; have z9 := HZ9.out; have z10 := HZ10.out; have z11 := HZ11.out; omega) hz11_3).trans c11_3_0
    have c12_3_1 := (wr_cell hw12 (b := (w4.heap.size)) 1 (by have z1 := HZ1.out; have z2 := HZ2.out; have z3 := HZ3.out; have z4 := HZ4.out; have z5 := HZ5.out; have z6 := HZ6.out; have z7 := HZ7.out; have z8 := HZ8.out; have z9 := HZ9.out; have z10 := HZ10.out; have z11 := HZ11.out; omega) hz11_3).trans c11_3_1
    have hz12_3 : (w4.heap.size) < w12.heap.size := Nat.lt_of_lt_of_le hz11_3 hw12.sz
    have c12_4_0 := (wr_cell hw12 (b := (w5.heap.size)) 0 (by have z1 := HZ1.out; have z2 := HZ2.out; have z3 := HZ3.out; have z4 := HZ4.out; have z5 := HZ5.out; have z6 := HZ6.out; have z7 := HZ7.out; have z8 := HZ8.out; have z9 := HZ9.out; have z10 := HZ10.out; have z11 := HZ11.out; omega) hz11_4).trans c11_4_0
    have c12_4_1 := (wr_cell hw12 (b := (w5.heap.size)) 1 (by have z1 := HZ1.out; have z2 := HZ2.out; have z3 := HZ3.out; have z4 := HZ4.out; have z5 := HZ5.out; have z6 := HZ6.out; have z7 := HZ7.out; have z8 := HZ8.out; have z9 := HZ9.out; have z10 := HZ10.out; have z11 := HZ11.out; omega) hz11_4).trans c11_4_1
    have hz12_4 : (w5.heap.size) < w12.heap.size := Nat.lt_of_lt_of_le hz11_4 hw12.sz
    have c12_5_0 := (wr_cell hw12 (b := (w6.heap.size)) 0 (by have z1 := HZ1.out; have z2 := HZ2.out; have z3 := HZ3.out; have z4 := HZ4.out; have z5 := HZ5.out; have z6 := HZ6.out; have z7 := HZ7.out; have z8 := HZ8.out; have z9 := HZ9.out; have z10 := HZ10.out; have z11 := HZ11.out; omega) hz11_5).trans c11_5_0
    have c12_5_1 := (wr_cell hw12 (b := (w6.heap.size)) 1 (by have z1 := HZ1.out; have z2 := HZ2.out; have z3 := HZ3.out; have z4 := HZ4.out; have z5 := HZ5.out; have z6 := HZ6.out; have z7 := HZ7.out; have z8 := HZ8.out; have z9 := HZ9.out; have z10 := HZ10.out; have z11 := HZ11.out; omega) hz11_5).trans c11_5_1
    have c12_5_2 := (wr_cell hw12 (b := (w6.heap.size)) 2 (by have z1 := HZ1.out; have z2 := HZ2.out; have z3 := HZ3.out; have z4 := HZ4.out; have z5 := HZ5.out; have z6 := HZ6.out; have z7 := HZ7.out; have z8 := HZ8.out; have z9 := HZ9.out; have z10 := HZ10.out; have z11 := HZ11.out; omega) hz11_5).trans c11_5_2
    have c12_5_3 := (wr_cell hw12 (b := (w6.heap.size)) 3 (by have z1 := HZ1.out; have z2 := HZ2.out; have z3 := HZ3.out; have z4 := HZ4.out; have z5 := HZ5.out; have z6 := HZ6.out; have z7 := HZ7.out; have z8 := HZ8.out; have z9 := HZ9.out; have z10 := HZ10.out; have z11 := HZ11.out; omega) hz11_5).trans c11_5_3
    have c12_5_4 := (wr_cell hw12 (b := (w6.heap.size)) 4 (by have z1 := HZ1.out; have z2 := HZ2.out; have z3 := HZ3.out; have z4 := HZ4.out; have z5 := HZ5.out; have z6 := HZ6.out; have z7 := HZ7.out; have z8 := HZ8.out; have z9 := HZ9.out; have z10 := HZ10.out; have z11 := HZ11.out; omega) hz11_5).trans c11_5_4
    have c12_5_5 := (wr_cell hw12 (b := (w6.heap.size)) 5 (by have z1 := HZ1.out; have z2 := HZ2.out; have z3 := HZ3.out; have z4 := HZ4.out; have z5 := HZ5.out; have z6 := HZ6.out; have z7 := HZ7.out; have z8 := HZ8.out; have z9 := HZ9.out; have z10 := HZ10.out; have z11 := HZ11.out; omega) hz11_5).trans c11_5_5
    have c12_5_6 := (wr_cell hw12 (b := (w6.heap.size)) 6 (by have z1 := HZ1.out; have z2 := HZ2.out; have z3 := HZ3.out; have z4 := HZ4.out; have z5 := HZ5.out; have z6 := HZ6.out; have z7 := HZ7.out; have z8 := HZ8.out; have z9 := HZ9.out; have z10 := HZ10.out; have z11 := HZ11.out; omega) hz11_5).trans c11_5_6
    have hz12_5 : (w6.heap.size) < w12.heap.size := Nat.lt_of_lt_of_le hz11_5 hw12.sz
    have X3_12 : Hid (BookOwn (w4.heap.size + 1) w5.heap.size w12 (.agg #[.slice y3a0 y3n0 y3c0, .slice y3a1 y3n1 y3c1]) (xs3, es3)) := X3_11.out.wr hw12 (by have z1 := HZ1.out; have z2 := HZ2.out; have z3 := HZ3.out; have z4 := HZ4.out; have z5 := HZ5.out; have z6 := HZ6.out; have z7 := HZ7.out; have z8 := HZ8.out; have z9 := HZ9.out; have z10 := HZ10.out; have z11 := HZ11.out; omega)
    have G_12 : Hid (RelOwn (w5.heap.size + 1) w6.heap.size w12 (.agg #[.int .i64 g0b0, .slice g0a1 g0n1 g0c1, .slice g0a2 g0n2 g0c2, .bool g0b3, .slice g0a4 g0n4 g0c4, .string g0b5, .string g0b6]) L0) := G_11.out.wr hw12 (by have z1 := HZ1.out; have z2 := HZ2.out; have z3 := HZ3.out; have z4 := HZ4.out; have z5 := HZ5.out; have z6 := HZ6.out; have z7 := HZ7.out; have z8 := HZ8.out; have z9 := HZ9.out; have z10 := HZ10.out; have z11 := HZ11.out; omega)
    have HZ12 : Hid (w11.heap.size ≤ w12.heap.size) := hw12.sz
    clear c11_0_0 c11_0_1 hz11_0 c11_1_0 c11_1_1 hz11_1 c11_2_0 c11_2_1 c11_2_2 c11_2_3 c11_2_4 c11_2_5 c11_2_6 hz11_2 c11_3_0 c11_3_1 hz11_3 c11_4_0 c11_4_1 hz11_4 c11_5_0 c11_5_1 c11_5_2 c11_5_3 c11_5_4 c11_5_5 c11_5_6 hz11_5 X3_11 G_11 hw12
    have hkn2 : ¬ ((k2 : Int) < 0) := by omega
    have hkb2 : k2 ≤ 40000001 := by omega
    clear hk2
    go_wp2_with fail
    obtain ⟨k3, hk3⟩ : ∃ K : Nat, k2 + bookCnt (xs3, es3) = K := ⟨_, rfl⟩
    have sm3 := HN3.out
    have hc3 : bookCnt (xs3, es3) ≤ 40000000 := by unfold BookSm at sm3; unfold bookCnt; omega
    clear sm3
    refine (cK (markBook_u (w4.heap.size + 1) w5.heap.size k2 _ _ (xs3, es3) X3_12.out HN3.out (by omega) (by have z1 := HZ1.out; have z2 := HZ2.out; have z3 := HZ3.out; have z4 := HZ4.out; have z5 := HZ5.out; have z6 := HZ6.out; have z7 := HZ7.out; have z8 := HZ8.out; have z9 := HZ9.out; have z10 := HZ10.out; have z11 := HZ11.out; have z12 := HZ12.out; omega) (by have z1 := HZ1.out; have z2 := HZ2.out; have z3 := HZ3.out; have z4 := HZ4.out; have z5 := HZ5.out; have z6 := HZ6.out; have z7 := HZ7.out; have z8 := HZ8.out; have z9 := HZ9.out; have z10 := HZ10.out; have z11 := HZ11.out; have z12 := HZ12.out; omega)) hk3).mono ?_
    rintro e w13 ⟨rfl, _, hw13⟩
    have HB13 : Hid (Below w.heap.size w w13) := HB12.out.trans (hw13.1.mono (show w.heap.size ≤ (w4.heap.size + 1) from (by have z1 := HZ1.out; have z2 := HZ2.out; have z3 := HZ3.out; have z4 := HZ4.out; have z5 := HZ5.out; have z6 := HZ6.out; have z7 := HZ7.out; have z8 := HZ8.out; have z9 := HZ9.out; have z10 := HZ10.out; have z11 := HZ11.out; have z12 := HZ12.out; omega)))
    have BC13 : Hid (Below w3.heap.size w3 w13) := BC12.out.trans (hw13.1.mono (show w3.heap.size ≤ (w4.heap.size + 1) from (by have z1 := HZ1.out; have z2 := HZ2.out; have z3 := HZ3.out; have z4 := HZ4.out; have z5 := HZ5.out; have z6 := HZ6.out; have z7 := HZ7.out; have z8 := HZ8.out; have z9 := HZ9.out; have z10 := HZ10.out; have z11 := HZ11.out; have z12 := HZ12.out; omega)))
    have c13_0_0 := (wr_cell hw13 (b := (w.heap.size)) 0 (by have z1 := HZ1.out; have z2 := HZ2.out; have z3 := HZ3.out; have z4 := HZ4.out; have z5 := HZ5.out; have z6 := HZ6.out; have z7 := HZ7.out; have z8 := HZ8.out; have z9 := HZ9.out; have z10 := HZ10.out; have z11 := HZ11.out; have z12 := HZ12.out; omega) hz12_0).trans c12_0_0
    have c13_0_1 := (wr_cell hw13 (b := (w.heap.size)) 1 (by have z1 := HZ1.out; have z2 := HZ2.out; have z3 := HZ3.out; have z4 := HZ4.out; have z5 := HZ5.out; have z6 := HZ6.out; have z7 := HZ7.out; have z8 := HZ8.out; have z9 := HZ9.out; have z10 := HZ10.out; have z11 := HZ11.out; have z12 := HZ12.out; omega) hz12_0).trans c12_0_1
    have hz13_0 : (w.heap.size) < w13.heap.size := Nat.lt_of_lt_of_le hz12_0 hw13.sz
    have c13_1_0 := (wr_cell hw13 (b := (w.heap.size + 1)) 0 (by have z1 := HZ1.out; have z2 := HZ2.out; have z3 := HZ3.out; have z4 := HZ4.out; have z5 := HZ5.out; have z6 := HZ6.out; have z7 := HZ7.out; have z8 := HZ8.out; have z9 := HZ9.out; have z10 := HZ10.out; have z11 := HZ11.out; have z12 := HZ12.out; omega) hz12_1).trans c12_1_0
    have c13_1_1 := (wr_cell hw13 (b := (w.heap.size + 1)) 1 (by have z1 := HZ1.out; have z2 := HZ2.out; have z3 := HZ3.out; have z4 := HZ4.out; have z5 := HZ5.out; have z6 := HZ6.out; have z7 := HZ7.out; have z8 := HZ8.out; have z9 := HZ9.out; have z10 := HZ10.out; have z11 := HZ11.out; have z12 := HZ12.out; omega) hz12_1).trans c12_1_1
    have hz13_1 : (w.heap.size + 1) < w13.heap.size := Nat.lt_of_lt_of_le hz12_1 hw13.sz
    have c13_2_0 := (wr_cell hw13 (b := B3) 0 (by have z1 := HZ1.out; have z2 := HZ2.out; have z3 := HZ3.out; have z4 := HZ4.out; have z5 := HZ5.out; have z6 := HZ6.out; have z7 := HZ7.out; have z8 := HZ8.out; have z9 := HZ9.out; have z10 := HZ10.out; have z11 := HZ11.out; have z12 := HZ12.out; omega) hz12_2).trans c12_2_0
    have c13_2_1 := (wr_cell hw13 (b := B3) 1 (by have z1 := HZ1.out; have z2 := HZ2.out; have z3 := HZ3.out; have z4 := HZ4.out; have z5 := HZ5.out; have z6 := HZ6.out; have z7 := HZ7.out; have z8 := HZ8.out; have z9 := HZ9.out; have z10 := HZ10.out; have z11 := HZ11.out; have z12 := HZ12.out; omega) hz12_2).trans c12_2_1
    have c13_2_2 := (wr_cell hw13 (b := B3) 2 (by have z1 := HZ1.out; have z2 := HZ2.out; have z3 := HZ3.out; have z4 := HZ4.out; have z5 := HZ5.out; have z6 := HZ6.out; have z7 := HZ7.out; have z8 := HZ8.out; have z9 := HZ9.out; have z10 := HZ10.out; have z11 := HZ11.out; have z12 := HZ12.out; omega) hz12_2).trans c12_2_2
    have c13_2_3 := (wr_cell hw13 (b := B3) 3 (by have z1 := HZ1.out; have z2 := HZ2.out; have z3 := HZ3.out; have z4 := HZ4.out; have z5 := HZ5.out; have z6 := HZ6.out; have z7 := HZ7.out; have z8 := HZ8.out; have z9 := HZ9.out; have z10 := HZ10.out; have z11 := HZ11.out; have z12 := HZ12.out; omega) hz12_2).trans c12_2_3
    have c13_2_4 := (wr_cell hw13 (b := B3) 4 (by have z1 := HZ1.out; have z2 := HZ2.out; have z3 := HZ3.out; have z4 := HZ4.out; have z5 := HZ5.out; have z6 := HZ6.out; have z7 := HZ7.out; have z8 := HZ8.out; have z9 := HZ9.out; have z10 := HZ10.out; have z11 := HZ11.out; have z12 := HZ12.out; omega) hz12_2).trans c12_2_4
    have c13_2_5 := (wr_cell hw13 (b := B3) 5 (by have z1 := HZ1.out; have z2 := HZ2.out; have z3 := HZ3.out; have z4 := HZ4.out; have z5 := HZ5.out; have z6 := HZ6.out; have z7 := HZ7.out; have z8 := HZ8.out; have z9 := HZ9.out; have z10 := HZ10.out; have z11 := HZ11.out; have z12 := HZ12.out; omega) hz12_2).trans c12_2_5
    have c13_2_6 := (wr_cell hw13 (b := B3) 6 (by have z1 := HZ1.out; have z2 := HZ2.out; have z3 := HZ3.out; have z4 := HZ4.out; have z5 := HZ5.out; have z6 := HZ6.out; have z7 := HZ7.out; have z8 := HZ8.out; have z9 := HZ9.out; have z10 := HZ10.out; have z11 := HZ11.out; have z12 := HZ12.out; omega) hz12_2).trans c12_2_6
    have hz13_2 : B3 < w13.heap.size := Nat.lt_of_lt_of_le hz12_2 hw13.sz
    have c13_3_0 := (wr_cell hw13 (b := (w4.heap.size)) 0 (by have z1 := HZ1.out; have z2 := HZ2.out; have z3 := HZ3.out; have z4 := HZ4.out; have z5 := HZ5.out; have z6 := HZ6.out; have z7 := HZ7.out; have z8 := HZ8.out; have z9 := HZ9.out; have z10 := HZ10.out; have z11 := HZ11.out; have z12 := HZ12.out; omega) hz12_3).trans c12_3_0
    have c13_3_1 := (wr_cell hw13 (b := (w4.heap.size)) 1 (by have z1 := HZ1.out; have z2 := HZ2.out; have z3 := HZ3.out; have z4 := HZ4.out; have z5 := HZ5.out; have z6 := HZ6.out; have z7 := HZ7.out; have z8 := HZ8.out; have z9 := HZ9.out; have z10 := HZ10.out; have z11 := HZ11.out; have z12 := HZ12.out; omega) hz12_3).trans c12_3_1
    have hz13_3 : (w4.heap.size) < w13.heap.size := Nat.lt_of_lt_of_le hz12_3 hw13.sz
    have c13_4_0 := (wr_cell hw13 (b := (w5.heap.size)) 0 (by have z1 := HZ1.out; have z2 := HZ2.out; have z3 := HZ3.out; have z4 := HZ4.out; have z5 := HZ5.out; have z6 := HZ6.out; have z7 := HZ7.out; have z8 := HZ8.out; have z9 := HZ9.out; have z10 := HZ10.out; have z11 := HZ11.out; have z12 := HZ12.out; omega) hz12_4).trans c12_4_0
    have c13_4_1 := (wr_cell hw13 (b := (w5.heap.size)) 1 (by have z1 := HZ1.out; have z2 := HZ2.out; have z3 := HZ3.out; have z4 := HZ4.out; have z5 := HZ5.out; have z6 := HZ6.out; have z7 := HZ7.out; have z8 := HZ8.out; have z9 := HZ9.out; have z10 := HZ10.out; have z11 := HZ11.out; have z12 := HZ12.out; omega) hz12_4).trans c12_4_1
    have hz13_4 : (w5.heap.size) < w13.heap.size := Nat.lt_of_lt_of_le hz12_4 hw13.sz
    have c13_5_0 := (wr_cell hw13 (b := (w6.heap.size)) 0 (by have z1 := HZ1.out; have z2 := HZ2.out; have z3 := HZ3.out; have z4 := HZ4.out; have z5 := HZ5.out; have z6 := HZ6.out; have z7 := HZ7.out; have z8 := HZ8.out; have z9 := HZ9.out; have z10 := HZ10.out; have z11 := HZ11.out; have z12 := HZ12.out; omega) hz12_5).trans c12_5_0
    have c13_5_1 := (wr_cell hw13 (b := (w6.heap.size)) 1 (by have z1 := HZ1.out; have z2 := HZ2.out; have z3 := HZ3.out; have z4 := HZ4.out; have z5 := HZ5.out; have z6 := HZ6.out; have z7 := HZ7.out; have z8 := HZ8.out; have z9 := HZ9.out; have z10 := HZ10.out; have z11 := HZ11.out; have z12 := HZ12.out; omega) hz12_5).trans c12_5_1
    have c13_5_2 := (wr_cell hw13 (b := (w6.heap.size)) 2 (by have z1 := HZ1.out; have z2 := HZ2.out; have z3 := HZ3.out; have z4 := HZ4.out; have z5 := HZ5.out; have z6 := HZ6.out; have z7 := HZ7.out; have z8 := HZ8.out; have z9 := HZ9.out; have z10 := HZ10.out; have z11 := HZ11.out; have z12 := HZ12.out; omega) hz12_5).trans c12_5_2
    have c13_5_3 := (wr_cell hw13 (b := (w6.heap.size)) 3 (by have z1 := HZ1.out; have z2 := HZ2.out; have z3 := HZ3.out; have z4 := HZ4.out; have z5 := HZ5.out; have z6 := HZ6.out; have z7 := HZ7.out; have z8 := HZ8.out; have z9 := HZ9.out; have z10 := HZ10.out; have z11 := HZ11.out; have z12 := HZ12.out; omega) hz12_5).trans c12_5_3
    have c13_5_4 := (wr_cell hw13 (b := (w6.heap.size)) 4 (by have z1 := HZ1.out; have z2 := HZ2.out; have z3 := HZ3.out; have z4 := HZ4.out; have z5 := HZ5.out; have z6 := HZ6.out; have z7 := HZ7.out; have z8 := HZ8.out; have z9 := HZ9.out; have z10 := HZ10.out; have z11 := HZ11.out; have z12 := HZ12.out; omega) hz12_5).trans c12_5_4
    have c13_5_5 := (wr_cell hw13 (b := (w6.heap.size)) 5 (by have z1 := HZ1.out; have z2 := HZ2.out; have z3 := HZ3.out; have z4 := HZ4.out; have z5 := HZ5.out; have z6 := HZ6.out; have z7 := HZ7.out; have z8 := HZ8.out; have z9 := HZ9.out; have z10 := HZ10.out; have z11 := HZ11.out; have z12 := HZ12.out; omega) hz12_5).trans c12_5_5
    have c13_5_6 := (wr_cell hw13 (b := (w6.heap.size)) 6 (by have z1 := HZ1.out; have z2 := HZ2.out; have z3 := HZ3.out; have z4 := HZ4.out; have z5 := HZ5.out; have z6 := HZ6.out; have z7 := HZ7.out; have z8 := HZ8.out; have z9 := HZ9.out; have z10 := HZ10.out; have z11 := HZ11.out; have z12 := HZ12.out; omega) hz12_5).trans c12_5_6
    have hz13_5 : (w6.heap.size) < w13.heap.size := Nat.lt_of_lt_of_le hz12_5 hw13.sz
    have G_13 : Hid (RelOwn (w5.heap.size + 1) w6.heap.size w13 (.agg #[.int .i64 g0b0, .slice g0a1 g0n1 g0c1, .slice g0a2 g0n2 g0c2, .bool g0b3, .slice g0a4 g0n4 g0c4, .string g0b5, .string g0b6]) L0) := G_12.out.wr hw13 (by have z1 := HZ1.out; have z2 := HZ2.out; have z3 := HZ3.out; have z4 := HZ4.out; have z5 := HZ5.out; have z6 := HZ6.out; have z7 := HZ7.out; have z8 := HZ8.out; have z9 := HZ9.out; have z10 := HZ10.out; have z11 := HZ11.out; have z12 := HZ12.out; omega)
    have HZ13 : Hid (w12.heap.size ≤ w13.heap.size) := hw13.sz
    clear c12_0_0 c12_0_1 hz12_0 c12_1_0 c12_1_1 hz12_1 c12_2_0 c12_2_1 c12_2_2 c12_2_3 c12_2_4 c12_2_5 c12_2_6 hz12_2 c12_3_0 c12_3_1 hz12_3 c12_4_0 c12_4_1 hz12_4 c12_5_0 c12_5_1 c12_5_2 c12_5_3 c12_5_4 c12_5_5 c12_5_6 hz12_5 G_12 hw13
    have hkn3 : ¬ ((k3 : Int) < 0) := by omega
    have hkb3 : k3 ≤ 80000001 := by omega
    clear hk3
    go_wp2_with fail
    refine (eqRel_u _ _ _ L0 (G_13.out).at (HU.out.below BC13.out)).mono ?_
    rintro e w14 ⟨rfl, hb14⟩
    have hh14 : Below w13.heap.size w13 w14 := hb14
    have HB14 : Hid (Below w.heap.size w w14) := HB13.out.trans (hh14.mono HB13.out.size)
    have BC14 : Hid (Below w3.heap.size w3 w14) := BC13.out.trans (hh14.mono BC13.out.size)
    have c14_0_0 := (hh14.cell (p := ⟨(w.heap.size), 0, none⟩) hz13_0).trans c13_0_0
    have c14_0_1 := (hh14.cell (p := ⟨(w.heap.size), 1, none⟩) hz13_0).trans c13_0_1
    have hz14_0 : (w.heap.size) < w14.heap.size := Nat.lt_of_lt_of_le hz13_0 hh14.size
    have c14_1_0 := (hh14.cell (p := ⟨(w.heap.size + 1), 0, none⟩) hz13_1).trans c13_1_0
    have c14_1_1 := (hh14.cell (p := ⟨(w.heap.size + 1), 1, none⟩) hz13_1).trans c13_1_1
    have hz14_1 : (w.heap.size + 1) < w14.heap.size := Nat.lt_of_lt_of_le hz13_1 hh14.size
    have c14_2_0 := (hh14.cell (p := ⟨B3, 0, none⟩) hz13_2).trans c13_2_0
    have c14_2_1 := (hh14.cell (p := ⟨B3, 1, none⟩) hz13_2).trans c13_2_1
    have c14_2_2 := (hh14.cell (p := ⟨B3, 2, none⟩) hz13_2).trans c13_2_2
    have c14_2_3 := (hh14.cell (p := ⟨B3, 3, none⟩) hz13_2).trans c13_2_3
    have c14_2_4 := (hh14.cell (p := ⟨B3, 4, none⟩) hz13_2).trans c13_2_4
    have c14_2_5 := (hh14.cell (p := ⟨B3, 5, none⟩) hz13_2).trans c13_2_5
    have c14_2_6 := (hh14.cell (p := ⟨B3, 6, none⟩) hz13_2).trans c13_2_6
    have hz14_2 : B3 < w14.heap.size := Nat.lt_of_lt_of_le hz13_2 hh14.size
    have c14_3_0 := (hh14.cell (p := ⟨(w4.heap.size), 0, none⟩) hz13_3).trans c13_3_0
    have c14_3_1 := (hh14.cell (p := ⟨(w4.heap.size), 1, none⟩) hz13_3).trans c13_3_1
    have hz14_3 : (w4.heap.size) < w14.heap.size := Nat.lt_of_lt_of_le hz13_3 hh14.size
    have c14_4_0 := (hh14.cell (p := ⟨(w5.heap.size), 0, none⟩) hz13_4).trans c13_4_0
    have c14_4_1 := (hh14.cell (p := ⟨(w5.heap.size), 1, none⟩) hz13_4).trans c13_4_1
    have hz14_4 : (w5.heap.size) < w14.heap.size := Nat.lt_of_lt_of_le hz13_4 hh14.size
    have c14_5_0 := (hh14.cell (p := ⟨(w6.heap.size), 0, none⟩) hz13_5).trans c13_5_0
    have c14_5_1 := (hh14.cell (p := ⟨(w6.heap.size), 1, none⟩) hz13_5).trans c13_5_1
    have c14_5_2 := (hh14.cell (p := ⟨(w6.heap.size), 2, none⟩) hz13_5).trans c13_5_2
    have c14_5_3 := (hh14.cell (p := ⟨(w6.heap.size), 3, none⟩) hz13_5).trans c13_5_3
    have c14_5_4 := (hh14.cell (p := ⟨(w6.heap.size), 4, none⟩) hz13_5).trans c13_5_4
    have c14_5_5 := (hh14.cell (p := ⟨(w6.heap.size), 5, none⟩) hz13_5).trans c13_5_5
    have c14_5_6 := (hh14.cell (p := ⟨(w6.heap.size), 6, none⟩) hz13_5).trans c13_5_6
    have hz14_5 : (w6.heap.size) < w14.heap.size := Nat.lt_of_lt_of_le hz13_5 hh14.size
    have G_14 : Hid (RelOwn (w5.heap.size + 1) w6.heap.size w14 (.agg #[.int .i64 g0b0, .slice g0a1 g0n1 g0c1, .slice g0a2 g0n2 g0c2, .bool g0b3, .slice g0a4 g0n4 g0c4, .string g0b5, .string g0b6]) L0) := G_13.out.below hh14
    have HZ14 : Hid (w13.heap.size ≤ w14.heap.size) := hh14.size
    clear c13_0_0 c13_0_1 hz13_0 c13_1_0 c13_1_1 hz13_1 c13_2_0 c13_2_1 c13_2_2 c13_2_3 c13_2_4 c13_2_5 c13_2_6 hz13_2 c13_3_0 c13_3_1 hz13_3 c13_4_0 c13_4_1 hz13_4 c13_5_0 c13_5_1 c13_5_2 c13_5_3 c13_5_4 c13_5_5 c13_5_6 hz13_5 G_13 hb14 hh14
    go_wp2_with fail
    obtain ⟨km, hkm⟩ : ∃ K : Nat, 1 + relCnt L0 = K := ⟨_, rfl⟩
    have smr := HSM.out
    have hcr : relCnt L0 ≤ 40000000 := by unfold ReleaseSm DeltaSm at smr; unfold relCnt deltaCnt; omega
    clear smr
    have HKM : Hid (_ = km) := hkm
    refine (cK (markRel_u (w5.heap.size + 1) w6.heap.size 1 _ _ L0 G_14.out HSM.out (by omega) (by have z1 := HZ1.out; have z2 := HZ2.out; have z3 := HZ3.out; have z4 := HZ4.out; have z5 := HZ5.out; have z6 := HZ6.out; have z7 := HZ7.out; have z8 := HZ8.out; have z9 := HZ9.out; have z10 := HZ10.out; have z11 := HZ11.out; have z12 := HZ12.out; have z13 := HZ13.out; have z14 := HZ14.out; omega) (by have z1 := HZ1.out; have z2 := HZ2.out; have z3 := HZ3.out; have z4 := HZ4.out; have z5 := HZ5.out; have z6 := HZ6.out; have z7 := HZ7.out; have z8 := HZ8.out; have z9 := HZ9.out; have z10 := HZ10.out; have z11 := HZ11.out; have z12 := HZ12.out; have z13 := HZ13.out; have z14 := HZ14.out; omega)) HKM.out).mono ?_
    rintro e w15 ⟨rfl, hu15, hw15⟩
    have HB15 : Hid (Below w.heap.size w w15) := HB14.out.trans (hw15.1.mono (show w.heap.size ≤ (w5.heap.size + 1) from (by have z1 := HZ1.out; have z2 := HZ2.out; have z3 := HZ3.out; have z4 := HZ4.out; have z5 := HZ5.out; have z6 := HZ6.out; have z7 := HZ7.out; have z8 := HZ8.out; have z9 := HZ9.out; have z10 := HZ10.out; have z11 := HZ11.out; have z12 := HZ12.out; have z13 := HZ13.out; have z14 := HZ14.out; omega)))
    have BC15 : Hid (Below w3.heap.size w3 w15) := BC14.out.trans (hw15.1.mono (show w3.heap.size ≤ (w5.heap.size + 1) from (by have z1 := HZ1.out; have z2 := HZ2.out; have z3 := HZ3.out; have z4 := HZ4.out; have z5 := HZ5.out; have z6 := HZ6.out; have z7 := HZ7.out; have z8 := HZ8.out; have z9 := HZ9.out; have z10 := HZ10.out; have z11 := HZ11.out; have z12 := HZ12.out; have z13 := HZ13.out; have z14 := HZ14.out; omega)))
    have c15_0_0 := (wr_cell hw15 (b := (w.heap.size)) 0 (by have z1 := HZ1.out; have z2 := HZ2.out; have z3 := HZ3.out; have z4 := HZ4.out; have z5 := HZ5.out; have z6 := HZ6.out; have z7 := HZ7.out; have z8 := HZ8.out; have z9 := HZ9.out; have z10 := HZ10.out; have z11 := HZ11.out; have z12 := HZ12.out; have z13 := HZ13.out; have z14 := HZ14.out; omega) hz14_0).trans c14_0_0
    have c15_0_1 := (wr_cell hw15 (b := (w.heap.size)) 1 (by have z1 := HZ1.out; have z2 := HZ2.out; have z3 := HZ3.out; have z4 := HZ4.out; have z5 := HZ5.out; have z6 := HZ6.out; have z7 := HZ7.out; have z8 := HZ8.out; have z9 := HZ9.out; have z10 := HZ10.out; have z11 := HZ11.out; have z12 := HZ12.out; have z13 := HZ13.out; have z14 := HZ14.out; omega) hz14_0).trans c14_0_1
    have hz15_0 : (w.heap.size) < w15.heap.size := Nat.lt_of_lt_of_le hz14_0 hw15.sz
    have c15_1_0 := (wr_cell hw15 (b := (w.heap.size + 1)) 0 (by have z1 := HZ1.out; have z2 := HZ2.out; have z3 := HZ3.out; have z4 := HZ4.out; have z5 := HZ5.out; have z6 := HZ6.out; have z7 := HZ7.out; have z8 := HZ8.out; have z9 := HZ9.out; have z10 := HZ10.out; have z11 := HZ11.out; have z12 := HZ12.out; have z13 := HZ13.out; have z14 := HZ14.out; omega) hz14_1).trans c14_1_0
    have c15_1_1 := (wr_cell hw15 (b := (w.heap.size + 1)) 1 (by have z1 := HZ1.out; have z2 := HZ2.out; have z3 := HZ3.out; have z4 := HZ4.out; have z5 := HZ5.out; have z6 := HZ6.out; have z7 := HZ7.out; have z8 := HZ8.out; have z9 := HZ9.out; have z10 := HZ10.out; have z11 := HZ11.out; have z12 := HZ12.out; have z13 := HZ13.out; have z14 := HZ14.out; omega) hz14_1).trans c14_1_1
    have hz15_1 : (w.heap.size + 1) < w15.heap.size := Nat.lt_of_lt_of_le hz14_1 hw15.sz
    have c15_2_0 := (wr_cell hw15 (b := B3) 0 (by have z1 := HZ1.out; have z2 := HZ2.out; have z3 := HZ3.out; have z4 := HZ4.out; have z5 := HZ5.out; have z6 := HZ6.out; have z7 := HZ7.out; have z8 := HZ8.out; have z9 := HZ9.out; have z10 := HZ10.out; have z11 := HZ11.out; have z12 := HZ12.out; have z13 := HZ13.out; have z14 := HZ14.out; omega) hz14_2).trans c14_2_0
    have c15_2_1 := (wr_cell hw15 (b := B3) 1 (by have z1 := HZ1.out; have z2 := HZ2.out; have z3 := HZ3.out; have z4 := HZ4.out; have z5 := HZ5.out; have z6 := HZ6.out; have z7 := HZ7.out; have z8 := HZ8.out; have z9 := HZ9.out; have z10 := HZ10.out; have z11 := HZ11.out; have z12 := HZ12.out; have z13 := HZ13.out; have z14 := HZ14.out; omega) hz14_2).trans c14_2_1
    have c15_2_2 := (wr_cell hw15 (b := B3) 2 (by have z1 := HZ1.out; have z2 := HZ2.out; have z3 := HZ3.out; have z4 := HZ4.out; have z5 := HZ5.out; have z6 := HZ6.out; have z7 := HZ7.out; have z8 := HZ8.out; have z9 := HZ9.out; have z10 := HZ10.out; have z11 := HZ11.out; have z12 := HZ12.out; have z13 := HZ13.out; have z14 := HZ14.out; omega) hz14_2).trans c14_2_2
    have c15_2_3 := (wr_cell hw15 (b := B3) 3 (by have z1 := HZ1.out; have z2 := HZ2.out; have z3 := HZ3.out; have z4 := HZ4.out; have z5 := HZ5.out; have z6 := HZ6.out; have z7 := HZ7.out; have z8 := HZ8.out; have z9 := HZ9.out; have z10 := HZ10.out; have z11 := HZ11.out; have z12 := HZ12.out; have z13 := HZ13.out; have z14 := HZ14.out; omega) hz14_2).trans c14_2_3
    have c15_2_4 := (wr_cell hw15 (b := B3) 4 (by have z1 := HZ1.out; have z2 := HZ2.out; have z3 := HZ3.out; have z4 := HZ4.out; have z5 := HZ5.out; have z6 := HZ6.out; have z7 := HZ7.out; have z8 := HZ8.out; have z9 := HZ9.out; have z10 := HZ10.out; have z11 := HZ11.out; have z12 := HZ12.out; have z13 := HZ13.out; have z14 := HZ14.out; omega) hz14_2).trans c14_2_4
    have c15_2_5 := (wr_cell hw15 (b := B3) 5 (by have z1 := HZ1.out; have z2 := HZ2.out; have z3 := HZ3.out; have z4 := HZ4.out; have z5 := HZ5.out; have z6 := HZ6.out; have z7 := HZ7.out; have z8 := HZ8.out; have z9 := HZ9.out; have z10 := HZ10.out; have z11 := HZ11.out; have z12 := HZ12.out; have z13 := HZ13.out; have z14 := HZ14.out; omega) hz14_2).trans c14_2_5
    have c15_2_6 := (wr_cell hw15 (b := B3) 6 (by have z1 := HZ1.out; have z2 := HZ2.out; have z3 := HZ3.out; have z4 := HZ4.out; have z5 := HZ5.out; have z6 := HZ6.out; have z7 := HZ7.out; have z8 := HZ8.out; have z9 := HZ9.out; have z10 := HZ10.out; have z11 := HZ11.out; have z12 := HZ12.out; have z13 := HZ13.out; have z14 := HZ14.out; omega) hz14_2).trans c14_2_6
    have hz15_2 : B3 < w15.heap.size := Nat.lt_of_lt_of_le hz14_2 hw15.sz
    have c15_3_0 := (wr_cell hw15 (b := (w4.heap.size)) 0 (by have z1 := HZ1.out; have z2 := HZ2.out; have z3 := HZ3.out; have z4 := HZ4.out; have z5 := HZ5.out; have z6 := HZ6.out; have z7 := HZ7.out; have z8 := HZ8.out; have z9 := HZ9.out; have z10 := HZ10.out; have z11 := HZ11.out; have z12 := HZ12.out; have z13 := HZ13.out; have z14 := HZ14.out; omega) hz14_3).trans c14_3_0
    have c15_3_1 := (wr_cell hw15 (b := (w4.heap.size)) 1 (by have z1 := HZ1.out; have z2 := HZ2.out; have z3 := HZ3.out; have z4 := HZ4.out; have z5 := HZ5.out; have z6 := HZ6.out; have z7 := HZ7.out; have z8 := HZ8.out; have z9 := HZ9.out; have z10 := HZ10.out; have z11 := HZ11.out; have z12 := HZ12.out; have z13 := HZ13.out; have z14 := HZ14.out; omega) hz14_3).trans c14_3_1
    have hz15_3 : (w4.heap.size) < w15.heap.size := Nat.lt_of_lt_of_le hz14_3 hw15.sz
    have c15_4_0 := (wr_cell hw15 (b := (w5.heap.size)) 0 (by have z1 := HZ1.out; have z2 := HZ2.out; have z3 := HZ3.out; have z4 := HZ4.out; have z5 := HZ5.out; have z6 := HZ6.out; have z7 := HZ7.out; have z8 := HZ8.out; have z9 := HZ9.out; have z10 := HZ10.out; have z11 := HZ11.out; have z12 := HZ12.out; have z13 := HZ13.out; have z14 := HZ14.out; omega) hz14_4).trans c14_4_0
    have c15_4_1 := (wr_cell hw15 (b := (w5.heap.size)) 1 (by have z1 := HZ1.out; have z2 := HZ2.out; have z3 := HZ3.out; have z4 := HZ4.out; have z5 := HZ5.out; have z6 := HZ6.out; have z7 := HZ7.out; have z8 := HZ8.out; have z9 := HZ9.out; have z10 := HZ10.out; have z11 := HZ11.out; have z12 := HZ12.out; have z13 := HZ13.out; have z14 := HZ14.out; omega) hz14_4).trans c14_4_1
    have hz15_4 : (w5.heap.size) < w15.heap.size := Nat.lt_of_lt_of_le hz14_4 hw15.sz
    have c15_5_0 := (wr_cell hw15 (b := (w6.heap.size)) 0 (by have z1 := HZ1.out; have z2 := HZ2.out; have z3 := HZ3.out; have z4 := HZ4.out; have z5 := HZ5.out; have z6 := HZ6.out; have z7 := HZ7.out; have z8 := HZ8.out; have z9 := HZ9.out; have z10 := HZ10.out; have z11 := HZ11.out; have z12 := HZ12.out; have z13 := HZ13.out; have z14 := HZ14.out; omega) hz14_5).trans c14_5_0
    have c15_5_1 := (wr_cell hw15 (b := (w6.heap.size)) 1 (by have z1 := HZ1.out; have z2 := HZ2.out; have z3 := HZ3.out; have z4 := HZ4.out; have z5 := HZ5.out; have z6 := HZ6.out; have z7 := HZ7.out; have z8 := HZ8.out; have z9 := HZ9.out; have z10 := HZ10.out; have z11 := HZ11.out; have z12 := HZ12.out; have z13 := HZ13.out; have z14 := HZ14.out; omega) hz14_5).trans c14_5_1
    have c15_5_2 := (wr_cell hw15 (b := (w6.heap.size)) 2 (by have z1 := HZ1.out; have z2 := HZ2.out; have z3 := HZ3.out; have z4 := HZ4.out; have z5 := HZ5.out; have z6 := HZ6.out; have z7 := HZ7.out; have z8 := HZ8.out; have z9 := HZ9.out; have z10 := HZ10.out; have z11 := HZ11.out; have z12 := HZ12.out; have z13 := HZ13.out; have z14 := HZ14.out; omega) hz14_5).trans c14_5_2
    have c15_5_3 := (wr_cell hw15 (b := (w6.heap.size)) 3 (by have z1 := HZ1.out; have z2 := HZ2.out; have z3 := HZ3.out; have z4 := HZ4.out; have z5 := HZ5.out; have z6 := HZ6.out; have z7 := HZ7.out; have z8 := HZ8.out; have z9 := HZ9.out; have z10 := HZ10.out; have z11 := HZ11.out; have z12 := HZ12.out; have z13 := HZ13.out; have z14 := HZ14.out; omega) hz14_5).trans c14_5_3
    have c15_5_4 := (wr_cell hw15 (b := (w6.heap.size)) 4 (by have z1 := HZ1.out; have z2 := HZ2.out; have z3 := HZ3.out; have z4 := HZ4.out; have z5 := HZ5.out; have z6 := HZ6.out; have z7 := HZ7.out; have z8 := HZ8.out; have z9 := HZ9.out; have z10 := HZ10.out; have z11 := HZ11.out; have z12 := HZ12.out; have z13 := HZ13.out; have z14 := HZ14.out; omega) hz14_5).trans c14_5_4
    have c15_5_5 := (wr_cell hw15 (b := (w6.heap.size)) 5 (by have z1 := HZ1.out; have z2 := HZ2.out; have z3 := HZ3.out; have z4 := HZ4.out; have z5 := HZ5.out; have z6 := HZ6.out; have z7 := HZ7.out; have z8 := HZ8.out; have z9 := HZ9.out; have z10 := HZ10.out; have z11 := HZ11.out; have z12 := HZ12.out; have z13 := HZ13.out; have z14 := HZ14.out; omega) hz14_5).trans c14_5_5
    have c15_5_6 := (wr_cell hw15 (b := (w6.heap.size)) 6 (by have z1 := HZ1.out; have z2 := HZ2.out; have z3 := HZ3.out; have z4 := HZ4.out; have z5 := HZ5.out; have z6 := HZ6.out; have z7 := HZ7.out; have z8 := HZ8.out; have z9 := HZ9.out; have z10 := HZ10.out; have z11 := HZ11.out; have z12 := HZ12.out; have z13 := HZ13.out; have z14 := HZ14.out; omega) hz14_5).trans c14_5_6
    have hz15_5 : (w6.heap.size) < w15.heap.size := Nat.lt_of_lt_of_le hz14_5 hw15.sz
    have HZ15 : Hid (w14.heap.size ≤ w15.heap.size) := hw15.sz
    clear c14_0_0 c14_0_1 hz14_0 c14_1_0 c14_1_1 hz14_1 c14_2_0 c14_2_1 c14_2_2 c14_2_3 c14_2_4 c14_2_5 c14_2_6 hz14_2 c14_3_0 c14_3_1 hz14_3 c14_4_0 c14_4_1 hz14_4 c14_5_0 c14_5_1 c14_5_2 c14_5_3 c14_5_4 c14_5_5 c14_5_6 hz14_5 hw15
    have Q_15 : Hid (RelOwn (w5.heap.size + 1) w6.heap.size w15 (.agg #[.int .i64 g0b0, .slice g0a1 g0n1 g0c1, .slice g0a2 g0n2 g0c2, .bool g0b3, .slice g0a4 g0n4 g0c4, .string g0b5, .string g0b6]) (relMk 1 L0)) := hu15
    clear hu15
    have hkmn : ¬ ((km : Int) < 0) := by omega
    clear hkm
    go_wp2_with fail
    refine (cK (heldRel_u _ _ 1 L0 (Q_15.out).at HSM.out (by omega)) HKM.out).mono ?_
    rintro e w16 ⟨rfl, hb16⟩
    have hh16 : Below w15.heap.size w15 w16 := hb16
    have HB16 : Hid (Below w.heap.size w w16) := HB15.out.trans (hh16.mono HB15.out.size)
    have BC16 : Hid (Below w3.heap.size w3 w16) := BC15.out.trans (hh16.mono BC15.out.size)
    have c16_0_0 := (hh16.cell (p := ⟨(w.heap.size), 0, none⟩) hz15_0).trans c15_0_0
    have c16_0_1 := (hh16.cell (p := ⟨(w.heap.size), 1, none⟩) hz15_0).trans c15_0_1
    have hz16_0 : (w.heap.size) < w16.heap.size := Nat.lt_of_lt_of_le hz15_0 hh16.size
    have c16_1_0 := (hh16.cell (p := ⟨(w.heap.size + 1), 0, none⟩) hz15_1).trans c15_1_0
    have c16_1_1 := (hh16.cell (p := ⟨(w.heap.size + 1), 1, none⟩) hz15_1).trans c15_1_1
    have hz16_1 : (w.heap.size + 1) < w16.heap.size := Nat.lt_of_lt_of_le hz15_1 hh16.size
    have c16_2_0 := (hh16.cell (p := ⟨B3, 0, none⟩) hz15_2).trans c15_2_0
    have c16_2_1 := (hh16.cell (p := ⟨B3, 1, none⟩) hz15_2).trans c15_2_1
    have c16_2_2 := (hh16.cell (p := ⟨B3, 2, none⟩) hz15_2).trans c15_2_2
    have c16_2_3 := (hh16.cell (p := ⟨B3, 3, none⟩) hz15_2).trans c15_2_3
    have c16_2_4 := (hh16.cell (p := ⟨B3, 4, none⟩) hz15_2).trans c15_2_4
    have c16_2_5 := (hh16.cell (p := ⟨B3, 5, none⟩) hz15_2).trans c15_2_5
    have c16_2_6 := (hh16.cell (p := ⟨B3, 6, none⟩) hz15_2).trans c15_2_6
    have hz16_2 : B3 < w16.heap.size := Nat.lt_of_lt_of_le hz15_2 hh16.size
    have c16_3_0 := (hh16.cell (p := ⟨(w4.heap.size), 0, none⟩) hz15_3).trans c15_3_0
    have c16_3_1 := (hh16.cell (p := ⟨(w4.heap.size), 1, none⟩) hz15_3).trans c15_3_1
    have hz16_3 : (w4.heap.size) < w16.heap.size := Nat.lt_of_lt_of_le hz15_3 hh16.size
    have c16_4_0 := (hh16.cell (p := ⟨(w5.heap.size), 0, none⟩) hz15_4).trans c15_4_0
    have c16_4_1 := (hh16.cell (p := ⟨(w5.heap.size), 1, none⟩) hz15_4).trans c15_4_1
    have hz16_4 : (w5.heap.size) < w16.heap.size := Nat.lt_of_lt_of_le hz15_4 hh16.size
    have c16_5_0 := (hh16.cell (p := ⟨(w6.heap.size), 0, none⟩) hz15_5).trans c15_5_0
    have c16_5_1 := (hh16.cell (p := ⟨(w6.heap.size), 1, none⟩) hz15_5).trans c15_5_1
    have c16_5_2 := (hh16.cell (p := ⟨(w6.heap.size), 2, none⟩) hz15_5).trans c15_5_2
    have c16_5_3 := (hh16.cell (p := ⟨(w6.heap.size), 3, none⟩) hz15_5).trans c15_5_3
    have c16_5_4 := (hh16.cell (p := ⟨(w6.heap.size), 4, none⟩) hz15_5).trans c15_5_4
    have c16_5_5 := (hh16.cell (p := ⟨(w6.heap.size), 5, none⟩) hz15_5).trans c15_5_5
    have c16_5_6 := (hh16.cell (p := ⟨(w6.heap.size), 6, none⟩) hz15_5).trans c15_5_6
    have hz16_5 : (w6.heap.size) < w16.heap.size := Nat.lt_of_lt_of_le hz15_5 hh16.size
    have Q_16 : Hid (RelOwn (w5.heap.size + 1) w6.heap.size w16 (.agg #[.int .i64 g0b0, .slice g0a1 g0n1 g0c1, .slice g0a2 g0n2 g0c2, .bool g0b3, .slice g0a4 g0n4 g0c4, .string g0b5, .string g0b6]) (relMk 1 L0)) := Q_15.out.below hh16
    have HZ16 : Hid (w15.heap.size ≤ w16.heap.size) := hh16.size
    clear c15_0_0 c15_0_1 hz15_0 c15_1_0 c15_1_1 hz15_1 c15_2_0 c15_2_1 c15_2_2 c15_2_3 c15_2_4 c15_2_5 c15_2_6 hz15_2 c15_3_0 c15_3_1 hz15_3 c15_4_0 c15_4_1 hz15_4 c15_5_0 c15_5_1 c15_5_2 c15_5_3 c15_5_4 c15_5_5 c15_5_6 hz15_5 Q_15 hb16 hh16
    go_wp2_with fail
    go_cut [19, 20] (fun u v0 wx => ∃ (Q lo hi : Nat) (e0b0 : Int) (e0a1 : Option Addr) (e0n1 e0c1 : Nat) (e0a2 : Option Addr) (e0n2 e0c2 : Nat) (e0b3 : Bool) (e0a4 : Option Addr) (e0n4 e0c4 : Nat) (e0b5 : ByteArray) (e0b6 : ByteArray), u = .pointer (some ⟨Q, 0, none⟩) ∧ v0 = .bool L1 ∧ wx.heap[Q]? = some (.cells #[.int .i64 e0b0, .slice e0a1 e0n1 e0c1, .slice e0a2 e0n2 e0c2, .bool e0b3, .slice e0a4 e0n4 e0c4, .string e0b5, .string e0b6] 33 (0, 0)) ∧ RelOwn lo hi wx (.agg #[.int .i64 e0b0, .slice e0a1 e0n1 e0c1, .slice e0a2 e0n2 e0c2, .bool e0b3, .slice e0a4 e0n4 e0c4, .string e0b5, .string e0b6]) L0 ∧ w16.heap.size ≤ lo ∧ lo ≤ hi ∧ hi ≤ wx.heap.size ∧ (Q < lo ∨ hi ≤ Q) ∧ Below w16.heap.size w16 wx ∧ w16.heap.size ≤ Q)
    case first =>
      have HS9 : Hid ((Tryz.prog.info? 33).map (·.size) = some 7) := by show _ = _; kernel_rfl
      have HC9 : Hid (∀ V, Below w16.heap.size w16 V → V.cell? ⟨(w.heap.size), 0, none⟩ = some (va2) ∧ V.cell? ⟨(w.heap.size), 1, none⟩ = some (ve2) ∧ V.cell? ⟨(w.heap.size + 1), 0, none⟩ = some (va3) ∧ V.cell? ⟨(w.heap.size + 1), 1, none⟩ = some (ve3) ∧ V.cell? ⟨B3, 0, none⟩ = some (.int .i64 p0b0) ∧ V.cell? ⟨B3, 1, none⟩ = some (.slice p0a1 p0n1 p0c1) ∧ V.cell? ⟨B3, 2, none⟩ = some (.slice p0a2 p0n2 p0c2) ∧ V.cell? ⟨B3, 3, none⟩ = some (.bool p0b3) ∧ V.cell? ⟨B3, 4, none⟩ = some (.slice p0a4 p0n4 p0c4) ∧ V.cell? ⟨B3, 5, none⟩ = some (.string p0b5) ∧ V.cell? ⟨B3, 6, none⟩ = some (.string p0b6) ∧ V.cell? ⟨(w4.heap.size), 0, none⟩ = some (.slice y2a0 y2n0 y2c0) ∧ V.cell? ⟨(w4.heap.size), 1, none⟩ = some (.slice y2a1 y2n1 y2c1) ∧ V.cell? ⟨(w5.heap.size), 0, none⟩ = some (.slice y3a0 y3n0 y3c0) ∧ V.cell? ⟨(w5.heap.size), 1, none⟩ = some (.slice y3a1 y3n1 y3c1) ∧ V.cell? ⟨(w6.heap.size), 0, none⟩ = some (.int .i64 g0b0) ∧ V.cell? ⟨(w6.heap.size), 1, none⟩ = some (.slice g0a1 g0n1 g0c1) ∧ V.cell? ⟨(w6.heap.size), 2, none⟩ = some (.slice g0a2 g0n2 g0c2) ∧ V.cell? ⟨(w6.heap.size), 3, none⟩ = some (.bool g0b3) ∧ V.cell? ⟨(w6.heap.size), 4, none⟩ = some (.slice g0a4 g0n4 g0c4) ∧ V.cell? ⟨(w6.heap.size), 5, none⟩ = some (.string g0b5) ∧ V.cell? ⟨(w6.heap.size), 6, none⟩ = some (.string g0b6)) := fun V hV => ⟨(hV.cell (p := ⟨(w.heap.size), 0, none⟩) hz16_0).trans c16_0_0, (hV.cell (p := ⟨(w.heap.size), 1, none⟩) hz16_0).trans c16_0_1, (hV.cell (p := ⟨(w.heap.size + 1), 0, none⟩) hz16_1).trans c16_1_0, (hV.cell (p := ⟨(w.heap.size + 1), 1, none⟩) hz16_1).trans c16_1_1, (hV.cell (p := ⟨B3, 0, none⟩) hz16_2).trans c16_2_0, (hV.cell (p := ⟨B3, 1, none⟩) hz16_2).trans c16_2_1, (hV.cell (p := ⟨B3, 2, none⟩) hz16_2).trans c16_2_2, (hV.cell (p := ⟨B3, 3, none⟩) hz16_2).trans c16_2_3, (hV.cell (p := ⟨B3, 4, none⟩) hz16_2).trans c16_2_4, (hV.cell (p := ⟨B3, 5, none⟩) hz16_2).trans c16_2_5, (hV.cell (p := ⟨B3, 6, none⟩) hz16_2).trans c16_2_6, (hV.cell (p := ⟨(w4.heap.size), 0, none⟩) hz16_3).trans c16_3_0, (hV.cell (p := ⟨(w4.heap.size), 1, none⟩) hz16_3).trans c16_3_1, (hV.cell (p := ⟨(w5.heap.size), 0, none⟩) hz16_4).trans c16_4_0, (hV.cell (p := ⟨(w5.heap.size), 1, none⟩) hz16_4).trans c16_4_1, (hV.cell (p := ⟨(w6.heap.size), 0, none⟩) hz16_5).trans c16_5_0, (hV.cell (p := ⟨(w6.heap.size), 1, none⟩) hz16_5).trans c16_5_1, (hV.cell (p := ⟨(w6.heap.size), 2, none⟩) hz16_5).trans c16_5_2, (hV.cell (p := ⟨(w6.heap.size), 3, none⟩) hz16_5).trans c16_5_3, (hV.cell (p := ⟨(w6.heap.size), 4, none⟩) hz16_5).trans c16_5_4, (hV.cell (p := ⟨(w6.heap.size), 5, none⟩) hz16_5).trans c16_5_5, (hV.cell (p := ⟨(w6.heap.size), 6, none⟩) hz16_5).trans c16_5_6⟩
      refine wp_region_held_drew (S := (fun w' => w'.cell? ⟨(w.heap.size), 0, none⟩ = some (va2) ∧ w'.cell? ⟨(w.heap.size), 1, none⟩ = some (ve2) ∧ w'.cell? ⟨(w.heap.size + 1), 0, none⟩ = some (va3) ∧ w'.cell? ⟨(w.heap.size + 1), 1, none⟩ = some (ve3) ∧ w'.cell? ⟨B3, 0, none⟩ = some (.int .i64 p0b0) ∧ w'.cell? ⟨B3, 1, none⟩ = some (.slice p0a1 p0n1 p0c1) ∧ w'.cell? ⟨B3, 2, none⟩ = some (.slice p0a2 p0n2 p0c2) ∧ w'.cell? ⟨B3, 3, none⟩ = some (.bool p0b3) ∧ w'.cell? ⟨B3, 4, none⟩ = some (.slice p0a4 p0n4 p0c4) ∧ w'.cell? ⟨B3, 5, none⟩ = some (.string p0b5) ∧ w'.cell? ⟨B3, 6, none⟩ = some (.string p0b6) ∧ w'.cell? ⟨(w4.heap.size), 0, none⟩ = some (.slice y2a0 y2n0 y2c0) ∧ w'.cell? ⟨(w4.heap.size), 1, none⟩ = some (.slice y2a1 y2n1 y2c1) ∧ w'.cell? ⟨(w5.heap.size), 0, none⟩ = some (.slice y3a0 y3n0 y3c0) ∧ w'.cell? ⟨(w5.heap.size), 1, none⟩ = some (.slice y3a1 y3n1 y3c1) ∧ w'.cell? ⟨(w6.heap.size), 0, none⟩ = some (.int .i64 g0b0) ∧ w'.cell? ⟨(w6.heap.size), 1, none⟩ = some (.slice g0a1 g0n1 g0c1) ∧ w'.cell? ⟨(w6.heap.size), 2, none⟩ = some (.slice g0a2 g0n2 g0c2) ∧ w'.cell? ⟨(w6.heap.size), 3, none⟩ = some (.bool g0b3) ∧ w'.cell? ⟨(w6.heap.size), 4, none⟩ = some (.slice g0a4 g0n4 g0c4) ∧ w'.cell? ⟨(w6.heap.size), 5, none⟩ = some (.string g0b5) ∧ w'.cell? ⟨(w6.heap.size), 6, none⟩ = some (.string g0b6))) (by kernel_rfl) ?_ (fun hHeld => ?_)
      · exact HC9.out w16 (Below.refl _ _)
      refine wpAnyH_takeD (i := 0) (d := 106) (v := .string s0) rfl (by kernel_rfl) (by kernel_rfl) (by kernel_rfl) (fun _ _ _ h => h) (Or.inl ⟨by rfl, by intro w hSw; (try dsimp only at hSw); go_simp⟩) (by assumption) rfl ?_
      simp only [Act.put, List.setIfInBounds_toArray, List.set_cons_zero, List.set_cons_succ]
      refine wpAnyH_takeD (i := 1) (d := 107) (v := .int .i64 n1) rfl (by kernel_rfl) (by kernel_rfl) (by kernel_rfl) (fun _ _ _ h => h) (Or.inl ⟨by rfl, by intro w hSw; (try dsimp only at hSw); go_simp⟩) (by assumption) rfl ?_
      simp only [Act.put, List.setIfInBounds_toArray, List.set_cons_zero, List.set_cons_succ]
      refine wpAnyH_takeD (i := 2) (d := 108) (v := .agg #[va2, ve2]) rfl (by kernel_rfl) (by kernel_rfl) (by kernel_rfl) (fun _ _ _ h => h) (Or.inl ⟨by rfl, by intro w hSw; (try dsimp only at hSw); go_simp⟩) (by assumption) rfl ?_
      simp only [Act.put, List.setIfInBounds_toArray, List.set_cons_zero, List.set_cons_succ]
      refine wpAnyH_takeD (i := 4) (d := 110) (v := .agg #[va3, ve3]) rfl (by kernel_rfl) (by kernel_rfl) (by kernel_rfl) (fun _ _ _ h => h) (Or.inl ⟨by rfl, by intro w hSw; (try dsimp only at hSw); go_simp⟩) (by assumption) rfl ?_
      simp only [Act.put, List.setIfInBounds_toArray, List.set_cons_zero, List.set_cons_succ]
      obtain ⟨x16_0, hx⟩ : ∃ X, World.drew w16 = X := ⟨_, rfl⟩
      have Kx16_0 : Hid (Below w16.heap.size w16 x16_0) := by show Below _ _ _; rw [← hx]; exact (Below.refl _ _).drew
      have Zx16_0 : Hid (w16.heap.size ≤ x16_0.heap.size) := Kx16_0.out.size
      rw [hx]
      clear hx c16_0_0 c16_0_1 c16_1_0 c16_1_1 c16_2_0 c16_2_1 c16_2_2 c16_2_3 c16_2_4 c16_2_5 c16_2_6 c16_3_0 c16_3_1 c16_4_0 c16_4_1 c16_5_0 c16_5_1 c16_5_2 c16_5_3 c16_5_4 c16_5_5 c16_5_6
      refine wpAnyH_ready (rs := [3, 10]) (by kernel_rfl) (by simp) ?_
      refine AllReadyH.cons rfl (fun K hK => ?_) (AllReadyH.cons rfl (fun K hK => ?_) AllReadyH.nil)
      · skip
        go_simp
        refine (toBook_u _ _ (xs2, es2) (HA2.out.below (HB16.out.trans (Kx16_0.out.mono HB16.out.size))) HN2.out).mono ?_
        rintro e x16_1 ⟨u2, rfl, ho, hb⟩
        have U2x16_1 : Hid (BookAt x16_1 u2 (xs2, es2)) := ho.at
        clear ho
        have Zx16_1 : Hid (x16_0.heap.size ≤ x16_1.heap.size) := hb.size
        have Kx16_1 : Hid (Below w16.heap.size w16 x16_1) := Kx16_0.out.trans (hb.mono Kx16_0.out.size)
        clear hb
        refine hK.out _ _ ?_ (fun hHeld => ?_)
        · exact HC9.out _ Kx16_1.out
        clear hK K
        try simp only [Act.put, List.setIfInBounds_toArray, List.set_cons_zero, List.set_cons_succ]
        refine wpAnyH_ready (rs := [5, 10]) (by kernel_rfl) (by simp) ?_
        refine AllReadyH.cons rfl (fun K hK => ?_) (AllReadyH.cons rfl (fun K hK => ?_) AllReadyH.nil)
        · skip
          go_simp
          refine (toBook_u _ _ (xs3, es3) (HA3.out.below (HB16.out.trans (Kx16_1.out.mono HB16.out.size))) HN3.out).mono ?_
          rintro e x16_2 ⟨u3, rfl, ho, hb⟩
          have U3x16_2 : Hid (BookAt x16_2 u3 (xs3, es3)) := ho.at
          clear ho
          have Zx16_2 : Hid (x16_1.heap.size ≤ x16_2.heap.size) := hb.size
          have Kx16_2 : Hid (Below w16.heap.size w16 x16_2) := Kx16_1.out.trans (hb.mono Kx16_1.out.size)
          have U2x16_2 : Hid (BookAt x16_2 u2 (xs2, es2)) := U2x16_1.out.below hb
          clear hb
          refine hK.out _ _ ?_ (fun hHeld => ?_)
          · exact HC9.out _ Kx16_2.out
          clear hK K
          try simp only [Act.put, List.setIfInBounds_toArray, List.set_cons_zero, List.set_cons_succ]
          refine wpAnyH_ready (rs := [6, 10]) (by kernel_rfl) (by simp) ?_
          refine AllReadyH.cons rfl (fun K hK => ?_) (AllReadyH.cons rfl (fun K hK => ?_) AllReadyH.nil)
          · skip
            go_simp
            refine (HIM.out _ _ _ U2x16_2.out U3x16_2.out (TB0_0.out.below (HB16.out.trans (Kx16_2.out.mono HB16.out.size))) (TB1_0.out.below (HB16.out.trans (Kx16_2.out.mono HB16.out.size))) (TB2_0.out.below (HB16.out.trans (Kx16_2.out.mono HB16.out.size)))).mono ?_
            rintro e x16_3 ⟨e0b0, e0a1, e0n1, e0c1, e0a2, e0n2, e0c2, e0b3, e0a4, e0n4, e0c4, e0b5, e0b6, rfl, hg, hb⟩
            have Gx16_3 : Hid (RelOwn x16_2.heap.size x16_3.heap.size x16_3 (.agg #[.int .i64 e0b0, .slice e0a1 e0n1 e0c1, .slice e0a2 e0n2 e0c2, .bool e0b3, .slice e0a4 e0n4 e0c4, .string e0b5, .string e0b6]) L0) := hg
            clear hg
            have Zx16_3 : Hid (x16_2.heap.size ≤ x16_3.heap.size) := hb.size
            have Kx16_3 : Hid (Below w16.heap.size w16 x16_3) := Kx16_2.out.trans (hb.mono Kx16_2.out.size)
            have U2x16_3 : Hid (BookAt x16_3 u2 (xs2, es2)) := U2x16_2.out.below hb
            have U3x16_3 : Hid (BookAt x16_3 u3 (xs3, es3)) := U3x16_2.out.below hb
            clear hb
            refine hK.out _ _ ?_ (fun hHeld => ?_)
            · exact HC9.out _ Kx16_3.out
            clear hK K
            try simp only [Act.put, List.setIfInBounds_toArray, List.set_cons_zero, List.set_cons_succ]
            refine wpAnyH_takeD (i := 7) (d := 105) (v := .tuple #[.agg #[.int .i64 e0b0, .slice e0a1 e0n1 e0c1, .slice e0a2 e0n2 e0c2, .bool e0b3, .slice e0a4 e0n4 e0c4, .string e0b5, .string e0b6], .bool L1]) rfl (by kernel_rfl) (by kernel_rfl) (by kernel_rfl) (fun _ _ _ h => h) (Or.inl ⟨by rfl, by intro w hSw; (try dsimp only at hSw); go_simp⟩) (by assumption) rfl ?_
            simp only [Act.put, List.setIfInBounds_toArray, List.set_cons_zero, List.set_cons_succ]
            refine wpAnyH_takeD (i := 8) (d := 113) (v := .agg #[.int .i64 e0b0, .slice e0a1 e0n1 e0c1, .slice e0a2 e0n2 e0c2, .bool e0b3, .slice e0a4 e0n4 e0c4, .string e0b5, .string e0b6]) rfl (by kernel_rfl) (by kernel_rfl) (by kernel_rfl) (fun _ _ _ h => h) (Or.inl ⟨by rfl, by intro w hSw; (try dsimp only at hSw); go_simp⟩) (by assumption) rfl ?_
            simp only [Act.put, List.setIfInBounds_toArray, List.set_cons_zero, List.set_cons_succ]
            refine wpAnyH_takeD (i := 9) (d := 114) (v := .bool L1) rfl (by kernel_rfl) (by kernel_rfl) (by kernel_rfl) (fun _ _ _ h => h) (Or.inl ⟨by rfl, by intro w hSw; (try dsimp only at hSw); go_simp⟩) (by assumption) rfl ?_
            simp only [Act.put, List.setIfInBounds_toArray, List.set_cons_zero, List.set_cons_succ]
            refine wpAnyH_ready (rs := [10]) (by kernel_rfl) (by simp) ?_
            refine AllReadyH.cons rfl (fun K hK => ?_) AllReadyH.nil
            go_simp
            have NA : Hid ((x16_3.alloc (.cells #[.int .i64 0, .slice none 0 0, .slice none 0 0, .bool false, .slice none 0 0, .string ⟨#[]⟩, .string ⟨#[]⟩] 33)).heap[x16_3.heap.size]? = some (.cells #[.int .i64 0, .slice none 0 0, .slice none 0 0, .bool false, .slice none 0 0, .string ⟨#[]⟩, .string ⟨#[]⟩] 33 (0, 0))) := heap_alloc_last _ _
            obtain ⟨x16_4, hx⟩ : ∃ X, x16_3.alloc (.cells #[.int .i64 0, .slice none 0 0, .slice none 0 0, .bool false, .slice none 0 0, .string ⟨#[]⟩, .string ⟨#[]⟩] 33) = X := ⟨_, rfl⟩
            have hb : Below x16_3.heap.size x16_3 x16_4 := by rw [← hx]; exact (Below.refl _ _).alloc (Nat.le_refl _) _
            have Zx16_4 : Hid (x16_3.heap.size < x16_4.heap.size) := by show _ < _; rw [← hx]; simp
            have Nx16_4 : Hid (x16_4.heap[x16_3.heap.size]? = some (.cells #[.int .i64 0, .slice none 0 0, .slice none 0 0, .bool false, .slice none 0 0, .string ⟨#[]⟩, .string ⟨#[]⟩] 33 (0, 0))) := by show _ = _; rw [← hx]; exact NA.out
            have HQ : Hid (w16.heap.size ≤ x16_3.heap.size) := Kx16_3.out.size
            rw [hx]
            clear hx NA
            have Kx16_4 : Hid (Below w16.heap.size w16 x16_4) := Kx16_3.out.trans (hb.mono Kx16_3.out.size)
            have Gx16_4 : Hid (RelOwn x16_2.heap.size x16_3.heap.size x16_4 (.agg #[.int .i64 e0b0, .slice e0a1 e0n1 e0c1, .slice e0a2 e0n2 e0c2, .bool e0b3, .slice e0a4 e0n4 e0c4, .string e0b5, .string e0b6]) L0) := Gx16_3.out.below hb
            clear hb
            refine hK.out _ _ ?_ (fun hHeld => ?_)
            · exact HC9.out _ Kx16_4.out
            clear hK K
            try simp only [Act.put, List.setIfInBounds_toArray, List.set_cons_zero, List.set_cons_succ]
            refine wpAnyH_ready (rs := [11]) (by kernel_rfl) (by simp) ?_
            refine AllReadyH.cons rfl (fun K hK => ?_) AllReadyH.nil
            refine step_store_row rfl 33 (.tmp 19) (.tmp 113) rfl (x16_3.heap.size) #[.int .i64 e0b0, .slice e0a1 e0n1 e0c1, .slice e0a2 e0n2 e0c2, .bool e0b3, .slice e0a4 e0n4 e0c4, .string e0b5, .string e0b6] rfl rfl 33 _ Nx16_4.out HS9.out rfl (by simp [Value.oneCell']) rfl ?_
            obtain ⟨V, hV⟩ : ∃ X, x16_4.setRow (x16_3.heap.size) #[.int .i64 e0b0, .slice e0a1 e0n1 e0c1, .slice e0a2 e0n2 e0c2, .bool e0b3, .slice e0a4 e0n4 e0c4, .string e0b5, .string e0b6] = X := ⟨_, rfl⟩
            have KV : Hid (Below w16.heap.size w16 V) := by show Below _ _ _; rw [← hV]; exact below_setRow Kx16_4.out HQ.out _
            have NV : Hid (V.heap[x16_3.heap.size]? = some (.cells #[.int .i64 e0b0, .slice e0a1 e0n1 e0c1, .slice e0a2 e0n2 e0c2, .bool e0b3, .slice e0a4 e0n4 e0c4, .string e0b5, .string e0b6] 33 (0, 0))) := by show _ = _; rw [← hV]; exact setRow_heap _ _ _ _ _ _ Nx16_4.out
            have zx16_0 := Zx16_0.out
            have zx16_1 := Zx16_1.out
            have zx16_2 := Zx16_2.out
            have zx16_3 := Zx16_3.out
            have zx16_4 := Zx16_4.out
            have hsV : V.heap.size = x16_4.heap.size := by rw [← hV]; simp
            have GV : Hid (RelOwn x16_2.heap.size x16_3.heap.size V (.agg #[.int .i64 e0b0, .slice e0a1 e0n1 e0c1, .slice e0a2 e0n2 e0c2, .bool e0b3, .slice e0a4 e0n4 e0c4, .string e0b5, .string e0b6]) L0) := by
              show RelOwn _ _ _ _ _
              rw [← hV]
              exact relOwn_setRow486 Gx16_4.out (q := x16_3.heap.size) (by omega) _
            rw [hV]
            clear hV
            refine hK.out _ _ ?_ (fun hHeld => ?_)
            · exact HC9.out _ KV.out
            clear hK K
            try simp only [Act.put, List.setIfInBounds_toArray, List.set_cons_zero, List.set_cons_succ]
            refine wpAnyH_takeD (i := 12) (d := 20) (v := .bool L1) rfl (by kernel_rfl) (by kernel_rfl) (by kernel_rfl) (fun _ _ _ h => h) (Or.inl ⟨by rfl, by intro w hSw; (try dsimp only at hSw); go_simp⟩) (by assumption) rfl ?_
            simp only [Act.put, List.setIfInBounds_toArray, List.set_cons_zero, List.set_cons_succ]
            refine wpAnyH_done (by kernel_rfl) ?_ _
            go_wp2
            go_meet
            case rel =>
              exact ⟨_, _, _, _, _, _, _, _, _, _, _, _, _, _, _, _, rfl, rfl, NV.out, GV.out, by omega, by omega, by omega, by omega, KV.out, HQ.out⟩
          · skip
            go_simp
            have NA : Hid ((x16_2.alloc (.cells #[.int .i64 0, .slice none 0 0, .slice none 0 0, .bool false, .slice none 0 0, .string ⟨#[]⟩, .string ⟨#[]⟩] 33)).heap[x16_2.heap.size]? = some (.cells #[.int .i64 0, .slice none 0 0, .slice none 0 0, .bool false, .slice none 0 0, .string ⟨#[]⟩, .string ⟨#[]⟩] 33 (0, 0))) := heap_alloc_last _ _
            obtain ⟨x16_5, hx⟩ : ∃ X, x16_2.alloc (.cells #[.int .i64 0, .slice none 0 0, .slice none 0 0, .bool false, .slice none 0 0, .string ⟨#[]⟩, .string ⟨#[]⟩] 33) = X := ⟨_, rfl⟩
            have hb : Below x16_2.heap.size x16_2 x16_5 := by rw [← hx]; exact (Below.refl _ _).alloc (Nat.le_refl _) _
            have Zx16_5 : Hid (x16_2.heap.size < x16_5.heap.size) := by show _ < _; rw [← hx]; simp
            have Nx16_5 : Hid (x16_5.heap[x16_2.heap.size]? = some (.cells #[.int .i64 0, .slice none 0 0, .slice none 0 0, .bool false, .slice none 0 0, .string ⟨#[]⟩, .string ⟨#[]⟩] 33 (0, 0))) := by show _ = _; rw [← hx]; exact NA.out
            have HQ : Hid (w16.heap.size ≤ x16_2.heap.size) := Kx16_2.out.size
            rw [hx]
            clear hx NA
            have Kx16_5 : Hid (Below w16.heap.size w16 x16_5) := Kx16_2.out.trans (hb.mono Kx16_2.out.size)
            have U2x16_5 : Hid (BookAt x16_5 u2 (xs2, es2)) := U2x16_2.out.below hb
            have U3x16_5 : Hid (BookAt x16_5 u3 (xs3, es3)) := U3x16_2.out.below hb
            clear hb
            refine hK.out _ _ ?_ (fun hHeld => ?_)
            · exact HC9.out _ Kx16_5.out
            clear hK K
            try simp only [Act.put, List.setIfInBounds_toArray, List.set_cons_zero, List.set_cons_succ]
            refine wpAnyH_ready (rs := [6]) (by kernel_rfl) (by simp) ?_
            refine AllReadyH.cons rfl (fun K hK => ?_) AllReadyH.nil
            go_simp
            refine (HIM.out _ _ _ U2x16_5.out U3x16_5.out (TB0_0.out.below (HB16.out.trans (Kx16_5.out.mono HB16.out.size))) (TB1_0.out.below (HB16.out.trans (Kx16_5.out.mono HB16.out.size))) (TB2_0.out.below (HB16.out.trans (Kx16_5.out.mono HB16.out.size)))).mono ?_
            rintro e x16_6 ⟨e0b0, e0a1, e0n1, e0c1, e0a2, e0n2, e0c2, e0b3, e0a4, e0n4, e0c4, e0b5, e0b6, rfl, hg, hb⟩
            have Gx16_6 : Hid (RelOwn x16_5.heap.size x16_6.heap.size x16_6 (.agg #[.int .i64 e0b0, .slice e0a1 e0n1 e0c1, .slice e0a2 e0n2 e0c2, .bool e0b3, .slice e0a4 e0n4 e0c4, .string e0b5, .string e0b6]) L0) := hg
            clear hg
            have Zx16_6 : Hid (x16_5.heap.size ≤ x16_6.heap.size) := hb.size
            have Kx16_6 : Hid (Below w16.heap.size w16 x16_6) := Kx16_5.out.trans (hb.mono Kx16_5.out.size)
            have Nx16_6 : Hid (x16_6.heap[x16_2.heap.size]? = some (.cells #[.int .i64 0, .slice none 0 0, .slice none 0 0, .bool false, .slice none 0 0, .string ⟨#[]⟩, .string ⟨#[]⟩] 33 (0, 0))) := (hb.block _ (Array.getElem?_eq_some_iff.1 Nx16_5.out).1).trans Nx16_5.out
            have U2x16_6 : Hid (BookAt x16_6 u2 (xs2, es2)) := U2x16_5.out.below hb
            have U3x16_6 : Hid (BookAt x16_6 u3 (xs3, es3)) := U3x16_5.out.below hb
            clear hb
            refine hK.out _ _ ?_ (fun hHeld => ?_)
            · exact HC9.out _ Kx16_6.out
            clear hK K
            try simp only [Act.put, List.setIfInBounds_toArray, List.set_cons_zero, List.set_cons_succ]
            refine wpAnyH_takeD (i := 7) (d := 105) (v := .tuple #[.agg #[.int .i64 e0b0, .slice e0a1 e0n1 e0c1, .slice e0a2 e0n2 e0c2, .bool e0b3, .slice e0a4 e0n4 e0c4, .string e0b5, .string e0b6], .bool L1]) rfl (by kernel_rfl) (by kernel_rfl) (by kernel_rfl) (fun _ _ _ h => h) (Or.inl ⟨by rfl, by intro w hSw; (try dsimp only at hSw); go_simp⟩) (by assumption) rfl ?_
            simp only [Act.put, List.setIfInBounds_toArray, List.set_cons_zero, List.set_cons_succ]
            refine wpAnyH_takeD (i := 8) (d := 113) (v := .agg #[.int .i64 e0b0, .slice e0a1 e0n1 e0c1, .slice e0a2 e0n2 e0c2, .bool e0b3, .slice e0a4 e0n4 e0c4, .string e0b5, .string e0b6]) rfl (by kernel_rfl) (by kernel_rfl) (by kernel_rfl) (fun _ _ _ h => h) (Or.inl ⟨by rfl, by intro w hSw; (try dsimp only at hSw); go_simp⟩) (by assumption) rfl ?_
            simp only [Act.put, List.setIfInBounds_toArray, List.set_cons_zero, List.set_cons_succ]
            refine wpAnyH_takeD (i := 9) (d := 114) (v := .bool L1) rfl (by kernel_rfl) (by kernel_rfl) (by kernel_rfl) (fun _ _ _ h => h) (Or.inl ⟨by rfl, by intro w hSw; (try dsimp only at hSw); go_simp⟩) (by assumption) rfl ?_
            simp only [Act.put, List.setIfInBounds_toArray, List.set_cons_zero, List.set_cons_succ]
            refine wpAnyH_ready (rs := [11]) (by kernel_rfl) (by simp) ?_
            refine AllReadyH.cons rfl (fun K hK => ?_) AllReadyH.nil
            refine step_store_row rfl 33 (.tmp 19) (.tmp 113) rfl (x16_2.heap.size) #[.int .i64 e0b0, .slice e0a1 e0n1 e0c1, .slice e0a2 e0n2 e0c2, .bool e0b3, .slice e0a4 e0n4 e0c4, .string e0b5, .string e0b6] rfl rfl 33 _ Nx16_6.out HS9.out rfl (by simp [Value.oneCell']) rfl ?_
            obtain ⟨V, hV⟩ : ∃ X, x16_6.setRow (x16_2.heap.size) #[.int .i64 e0b0, .slice e0a1 e0n1 e0c1, .slice e0a2 e0n2 e0c2, .bool e0b3, .slice e0a4 e0n4 e0c4, .string e0b5, .string e0b6] = X := ⟨_, rfl⟩
            have KV : Hid (Below w16.heap.size w16 V) := by show Below _ _ _; rw [← hV]; exact below_setRow Kx16_6.out HQ.out _
            have NV : Hid (V.heap[x16_2.heap.size]? = some (.cells #[.int .i64 e0b0, .slice e0a1 e0n1 e0c1, .slice e0a2 e0n2 e0c2, .bool e0b3, .slice e0a4 e0n4 e0c4, .string e0b5, .string e0b6] 33 (0, 0))) := by show _ = _; rw [← hV]; exact setRow_heap _ _ _ _ _ _ Nx16_6.out
            have zx16_0 := Zx16_0.out
            have zx16_1 := Zx16_1.out
            have zx16_2 := Zx16_2.out
            have zx16_5 := Zx16_5.out
            have zx16_6 := Zx16_6.out
            have hsV : V.heap.size = x16_6.heap.size := by rw [← hV]; simp
            have GV : Hid (RelOwn x16_5.heap.size x16_6.heap.size V (.agg #[.int .i64 e0b0, .slice e0a1 e0n1 e0c1, .slice e0a2 e0n2 e0c2, .bool e0b3, .slice e0a4 e0n4 e0c4, .string e0b5, .string e0b6]) L0) := by
              show RelOwn _ _ _ _ _
              rw [← hV]
              exact relOwn_setRow486 Gx16_6.out (q := x16_2.heap.size) (by omega) _
            rw [hV]
            clear hV
            refine hK.out _ _ ?_ (fun hHeld => ?_)
            · exact HC9.out _ KV.out
            clear hK K
            try simp only [Act.put, List.setIfInBounds_toArray, List.set_cons_zero, List.set_cons_succ]
            refine wpAnyH_takeD (i := 12) (d := 20) (v := .bool L1) rfl (by kernel_rfl) (by kernel_rfl) (by kernel_rfl) (fun _ _ _ h => h) (Or.inl ⟨by rfl, by intro w hSw; (try dsimp only at hSw); go_simp⟩) (by assumption) rfl ?_
            simp only [Act.put, List.setIfInBounds_toArray, List.set_cons_zero, List.set_cons_succ]
            refine wpAnyH_done (by kernel_rfl) ?_ _
            go_wp2
            go_meet
            case rel =>
              exact ⟨_, _, _, _, _, _, _, _, _, _, _, _, _, _, _, _, rfl, rfl, NV.out, GV.out, by omega, by omega, by omega, by omega, KV.out, HQ.out⟩
        · skip
          go_simp
          have NA : Hid ((x16_1.alloc (.cells #[.int .i64 0, .slice none 0 0, .slice none 0 0, .bool false, .slice none 0 0, .string ⟨#[]⟩, .string ⟨#[]⟩] 33)).heap[x16_1.heap.size]? = some (.cells #[.int .i64 0, .slice none 0 0, .slice none 0 0, .bool false, .slice none 0 0, .string ⟨#[]⟩, .string ⟨#[]⟩] 33 (0, 0))) := heap_alloc_last _ _
          obtain ⟨x16_7, hx⟩ : ∃ X, x16_1.alloc (.cells #[.int .i64 0, .slice none 0 0, .slice none 0 0, .bool false, .slice none 0 0, .string ⟨#[]⟩, .string ⟨#[]⟩] 33) = X := ⟨_, rfl⟩
          have hb : Below x16_1.heap.size x16_1 x16_7 := by rw [← hx]; exact (Below.refl _ _).alloc (Nat.le_refl _) _
          have Zx16_7 : Hid (x16_1.heap.size < x16_7.heap.size) := by show _ < _; rw [← hx]; simp
          have Nx16_7 : Hid (x16_7.heap[x16_1.heap.size]? = some (.cells #[.int .i64 0, .slice none 0 0, .slice none 0 0, .bool false, .slice none 0 0, .string ⟨#[]⟩, .string ⟨#[]⟩] 33 (0, 0))) := by show _ = _; rw [← hx]; exact NA.out
          have HQ : Hid (w16.heap.size ≤ x16_1.heap.size) := Kx16_1.out.size
          rw [hx]
          clear hx NA
          have Kx16_7 : Hid (Below w16.heap.size w16 x16_7) := Kx16_1.out.trans (hb.mono Kx16_1.out.size)
          have U2x16_7 : Hid (BookAt x16_7 u2 (xs2, es2)) := U2x16_1.out.below hb
          clear hb
          refine hK.out _ _ ?_ (fun hHeld => ?_)
          · exact HC9.out _ Kx16_7.out
          clear hK K
          try simp only [Act.put, List.setIfInBounds_toArray, List.set_cons_zero, List.set_cons_succ]
          refine wpAnyH_ready (rs := [5]) (by kernel_rfl) (by simp) ?_
          refine AllReadyH.cons rfl (fun K hK => ?_) AllReadyH.nil
          go_simp
          refine (toBook_u _ _ (xs3, es3) (HA3.out.below (HB16.out.trans (Kx16_7.out.mono HB16.out.size))) HN3.out).mono ?_
          rintro e x16_8 ⟨u3, rfl, ho, hb⟩
          have U3x16_8 : Hid (BookAt x16_8 u3 (xs3, es3)) := ho.at
          clear ho
          have Zx16_8 : Hid (x16_7.heap.size ≤ x16_8.heap.size) := hb.size
          have Kx16_8 : Hid (Below w16.heap.size w16 x16_8) := Kx16_7.out.trans (hb.mono Kx16_7.out.size)
          have Nx16_8 : Hid (x16_8.heap[x16_1.heap.size]? = some (.cells #[.int .i64 0, .slice none 0 0, .slice none 0 0, .bool false, .slice none 0 0, .string ⟨#[]⟩, .string ⟨#[]⟩] 33 (0, 0))) := (hb.block _ (Array.getElem?_eq_some_iff.1 Nx16_7.out).1).trans Nx16_7.out
          have U2x16_8 : Hid (BookAt x16_8 u2 (xs2, es2)) := U2x16_7.out.below hb
          clear hb
          refine hK.out _ _ ?_ (fun hHeld => ?_)
          · exact HC9.out _ Kx16_8.out
          clear hK K
          try simp only [Act.put, List.setIfInBounds_toArray, List.set_cons_zero, List.set_cons_succ]
          refine wpAnyH_ready (rs := [6]) (by kernel_rfl) (by simp) ?_
          refine AllReadyH.cons rfl (fun K hK => ?_) AllReadyH.nil
          go_simp
          refine (HIM.out _ _ _ U2x16_8.out U3x16_8.out (TB0_0.out.below (HB16.out.trans (Kx16_8.out.mono HB16.out.size))) (TB1_0.out.below (HB16.out.trans (Kx16_8.out.mono HB16.out.size))) (TB2_0.out.below (HB16.out.trans (Kx16_8.out.mono HB16.out.size)))).mono ?_
          rintro e x16_9 ⟨e0b0, e0a1, e0n1, e0c1, e0a2, e0n2, e0c2, e0b3, e0a4, e0n4, e0c4, e0b5, e0b6, rfl, hg, hb⟩
          have Gx16_9 : Hid (RelOwn x16_8.heap.size x16_9.heap.size x16_9 (.agg #[.int .i64 e0b0, .slice e0a1 e0n1 e0c1, .slice e0a2 e0n2 e0c2, .bool e0b3, .slice e0a4 e0n4 e0c4, .string e0b5, .string e0b6]) L0) := hg
          clear hg
          have Zx16_9 : Hid (x16_8.heap.size ≤ x16_9.heap.size) := hb.size
          have Kx16_9 : Hid (Below w16.heap.size w16 x16_9) := Kx16_8.out.trans (hb.mono Kx16_8.out.size)
          have Nx16_9 : Hid (x16_9.heap[x16_1.heap.size]? = some (.cells #[.int .i64 0, .slice none 0 0, .slice none 0 0, .bool false, .slice none 0 0, .string ⟨#[]⟩, .string ⟨#[]⟩] 33 (0, 0))) := (hb.block _ (Array.getElem?_eq_some_iff.1 Nx16_8.out).1).trans Nx16_8.out
          have U2x16_9 : Hid (BookAt x16_9 u2 (xs2, es2)) := U2x16_8.out.below hb
          have U3x16_9 : Hid (BookAt x16_9 u3 (xs3, es3)) := U3x16_8.out.below hb
          clear hb
          refine hK.out _ _ ?_ (fun hHeld => ?_)
          · exact HC9.out _ Kx16_9.out
          clear hK K
          try simp only [Act.put, List.setIfInBounds_toArray, List.set_cons_zero, List.set_cons_succ]
          refine wpAnyH_takeD (i := 7) (d := 105) (v := .tuple #[.agg #[.int .i64 e0b0, .slice e0a1 e0n1 e0c1, .slice e0a2 e0n2 e0c2, .bool e0b3, .slice e0a4 e0n4 e0c4, .string e0b5, .string e0b6], .bool L1]) rfl (by kernel_rfl) (by kernel_rfl) (by kernel_rfl) (fun _ _ _ h => h) (Or.inl ⟨by rfl, by intro w hSw; (try dsimp only at hSw); go_simp⟩) (by assumption) rfl ?_
          simp only [Act.put, List.setIfInBounds_toArray, List.set_cons_zero, List.set_cons_succ]
          refine wpAnyH_takeD (i := 8) (d := 113) (v := .agg #[.int .i64 e0b0, .slice e0a1 e0n1 e0c1, .slice e0a2 e0n2 e0c2, .bool e0b3, .slice e0a4 e0n4 e0c4, .string e0b5, .string e0b6]) rfl (by kernel_rfl) (by kernel_rfl) (by kernel_rfl) (fun _ _ _ h => h) (Or.inl ⟨by rfl, by intro w hSw; (try dsimp only at hSw); go_simp⟩) (by assumption) rfl ?_
          simp only [Act.put, List.setIfInBounds_toArray, List.set_cons_zero, List.set_cons_succ]
          refine wpAnyH_takeD (i := 9) (d := 114) (v := .bool L1) rfl (by kernel_rfl) (by kernel_rfl) (by kernel_rfl) (fun _ _ _ h => h) (Or.inl ⟨by rfl, by intro w hSw; (try dsimp only at hSw); go_simp⟩) (by assumption) rfl ?_
          simp only [Act.put, List.setIfInBounds_toArray, List.set_cons_zero, List.set_cons_succ]
          refine wpAnyH_ready (rs := [11]) (by kernel_rfl) (by simp) ?_
          refine AllReadyH.cons rfl (fun K hK => ?_) AllReadyH.nil
          refine step_store_row rfl 33 (.tmp 19) (.tmp 113) rfl (x16_1.heap.size) #[.int .i64 e0b0, .slice e0a1 e0n1 e0c1, .slice e0a2 e0n2 e0c2, .bool e0b3, .slice e0a4 e0n4 e0c4, .string e0b5, .string e0b6] rfl rfl 33 _ Nx16_9.out HS9.out rfl (by simp [Value.oneCell']) rfl ?_
          obtain ⟨V, hV⟩ : ∃ X, x16_9.setRow (x16_1.heap.size) #[.int .i64 e0b0, .slice e0a1 e0n1 e0c1, .slice e0a2 e0n2 e0c2, .bool e0b3, .slice e0a4 e0n4 e0c4, .string e0b5, .string e0b6] = X := ⟨_, rfl⟩
          have KV : Hid (Below w16.heap.size w16 V) := by show Below _ _ _; rw [← hV]; exact below_setRow Kx16_9.out HQ.out _
          have NV : Hid (V.heap[x16_1.heap.size]? = some (.cells #[.int .i64 e0b0, .slice e0a1 e0n1 e0c1, .slice e0a2 e0n2 e0c2, .bool e0b3, .slice e0a4 e0n4 e0c4, .string e0b5, .string e0b6] 33 (0, 0))) := by show _ = _; rw [← hV]; exact setRow_heap _ _ _ _ _ _ Nx16_9.out
          have zx16_0 := Zx16_0.out
          have zx16_1 := Zx16_1.out
          have zx16_7 := Zx16_7.out
          have zx16_8 := Zx16_8.out
          have zx16_9 := Zx16_9.out
          have hsV : V.heap.size = x16_9.heap.size := by rw [← hV]; simp
          have GV : Hid (RelOwn x16_8.heap.size x16_9.heap.size V (.agg #[.int .i64 e0b0, .slice e0a1 e0n1 e0c1, .slice e0a2 e0n2 e0c2, .bool e0b3, .slice e0a4 e0n4 e0c4, .string e0b5, .string e0b6]) L0) := by
            show RelOwn _ _ _ _ _
            rw [← hV]
            exact relOwn_setRow486 Gx16_9.out (q := x16_1.heap.size) (by omega) _
          rw [hV]
          clear hV
          refine hK.out _ _ ?_ (fun hHeld => ?_)
          · exact HC9.out _ KV.out
          clear hK K
          try simp only [Act.put, List.setIfInBounds_toArray, List.set_cons_zero, List.set_cons_succ]
          refine wpAnyH_takeD (i := 12) (d := 20) (v := .bool L1) rfl (by kernel_rfl) (by kernel_rfl) (by kernel_rfl) (fun _ _ _ h => h) (Or.inl ⟨by rfl, by intro w hSw; (try dsimp only at hSw); go_simp⟩) (by assumption) rfl ?_
          simp only [Act.put, List.setIfInBounds_toArray, List.set_cons_zero, List.set_cons_succ]
          refine wpAnyH_done (by kernel_rfl) ?_ _
          go_wp2
          go_meet
          case rel =>
            exact ⟨_, _, _, _, _, _, _, _, _, _, _, _, _, _, _, _, rfl, rfl, NV.out, GV.out, by omega, by omega, by omega, by omega, KV.out, HQ.out⟩
      · skip
        go_simp
        have NA : Hid ((x16_0.alloc (.cells #[.int .i64 0, .slice none 0 0, .slice none 0 0, .bool false, .slice none 0 0, .string ⟨#[]⟩, .string ⟨#[]⟩] 33)).heap[x16_0.heap.size]? = some (.cells #[.int .i64 0, .slice none 0 0, .slice none 0 0, .bool false, .slice none 0 0, .string ⟨#[]⟩, .string ⟨#[]⟩] 33 (0, 0))) := heap_alloc_last _ _
        obtain ⟨x16_10, hx⟩ : ∃ X, x16_0.alloc (.cells #[.int .i64 0, .slice none 0 0, .slice none 0 0, .bool false, .slice none 0 0, .string ⟨#[]⟩, .string ⟨#[]⟩] 33) = X := ⟨_, rfl⟩
        have hb : Below x16_0.heap.size x16_0 x16_10 := by rw [← hx]; exact (Below.refl _ _).alloc (Nat.le_refl _) _
        have Zx16_10 : Hid (x16_0.heap.size < x16_10.heap.size) := by show _ < _; rw [← hx]; simp
        have Nx16_10 : Hid (x16_10.heap[x16_0.heap.size]? = some (.cells #[.int .i64 0, .slice none 0 0, .slice none 0 0, .bool false, .slice none 0 0, .string ⟨#[]⟩, .string ⟨#[]⟩] 33 (0, 0))) := by show _ = _; rw [← hx]; exact NA.out
        have HQ : Hid (w16.heap.size ≤ x16_0.heap.size) := Kx16_0.out.size
        rw [hx]
        clear hx NA
        have Kx16_10 : Hid (Below w16.heap.size w16 x16_10) := Kx16_0.out.trans (hb.mono Kx16_0.out.size)
        clear hb
        refine hK.out _ _ ?_ (fun hHeld => ?_)
        · exact HC9.out _ Kx16_10.out
        clear hK K
        try simp only [Act.put, List.setIfInBounds_toArray, List.set_cons_zero, List.set_cons_succ]
        refine wpAnyH_ready (rs := [3]) (by kernel_rfl) (by simp) ?_
        refine AllReadyH.cons rfl (fun K hK => ?_) AllReadyH.nil
        go_simp
        refine (toBook_u _ _ (xs2, es2) (HA2.out.below (HB16.out.trans (Kx16_10.out.mono HB16.out.size))) HN2.out).mono ?_
        rintro e x16_11 ⟨u2, rfl, ho, hb⟩
        have U2x16_11 : Hid (BookAt x16_11 u2 (xs2, es2)) := ho.at
        clear ho
        have Zx16_11 : Hid (x16_10.heap.size ≤ x16_11.heap.size) := hb.size
        have Kx16_11 : Hid (Below w16.heap.size w16 x16_11) := Kx16_10.out.trans (hb.mono Kx16_10.out.size)
        have Nx16_11 : Hid (x16_11.heap[x16_0.heap.size]? = some (.cells #[.int .i64 0, .slice none 0 0, .slice none 0 0, .bool false, .slice none 0 0, .string ⟨#[]⟩, .string ⟨#[]⟩] 33 (0, 0))) := (hb.block _ (Array.getElem?_eq_some_iff.1 Nx16_10.out).1).trans Nx16_10.out
        clear hb
        refine hK.out _ _ ?_ (fun hHeld => ?_)
        · exact HC9.out _ Kx16_11.out
        clear hK K
        try simp only [Act.put, List.setIfInBounds_toArray, List.set_cons_zero, List.set_cons_succ]
        refine wpAnyH_ready (rs := [5]) (by kernel_rfl) (by simp) ?_
        refine AllReadyH.cons rfl (fun K hK => ?_) AllReadyH.nil
        go_simp
        refine (toBook_u _ _ (xs3, es3) (HA3.out.below (HB16.out.trans (Kx16_11.out.mono HB16.out.size))) HN3.out).mono ?_
        rintro e x16_12 ⟨u3, rfl, ho, hb⟩
        have U3x16_12 : Hid (BookAt x16_12 u3 (xs3, es3)) := ho.at
        clear ho
        have Zx16_12 : Hid (x16_11.heap.size ≤ x16_12.heap.size) := hb.size
        have Kx16_12 : Hid (Below w16.heap.size w16 x16_12) := Kx16_11.out.trans (hb.mono Kx16_11.out.size)
        have Nx16_12 : Hid (x16_12.heap[x16_0.heap.size]? = some (.cells #[.int .i64 0, .slice none 0 0, .slice none 0 0, .bool false, .slice none 0 0, .string ⟨#[]⟩, .string ⟨#[]⟩] 33 (0, 0))) := (hb.block _ (Array.getElem?_eq_some_iff.1 Nx16_11.out).1).trans Nx16_11.out
        have U2x16_12 : Hid (BookAt x16_12 u2 (xs2, es2)) := U2x16_11.out.below hb
        clear hb
        refine hK.out _ _ ?_ (fun hHeld => ?_)
        · exact HC9.out _ Kx16_12.out
        clear hK K
        try simp only [Act.put, List.setIfInBounds_toArray, List.set_cons_zero, List.set_cons_succ]
        refine wpAnyH_ready (rs := [6]) (by kernel_rfl) (by simp) ?_
        refine AllReadyH.cons rfl (fun K hK => ?_) AllReadyH.nil
        go_simp
        refine (HIM.out _ _ _ U2x16_12.out U3x16_12.out (TB0_0.out.below (HB16.out.trans (Kx16_12.out.mono HB16.out.size))) (TB1_0.out.below (HB16.out.trans (Kx16_12.out.mono HB16.out.size))) (TB2_0.out.below (HB16.out.trans (Kx16_12.out.mono HB16.out.size)))).mono ?_
        rintro e x16_13 ⟨e0b0, e0a1, e0n1, e0c1, e0a2, e0n2, e0c2, e0b3, e0a4, e0n4, e0c4, e0b5, e0b6, rfl, hg, hb⟩
        have Gx16_13 : Hid (RelOwn x16_12.heap.size x16_13.heap.size x16_13 (.agg #[.int .i64 e0b0, .slice e0a1 e0n1 e0c1, .slice e0a2 e0n2 e0c2, .bool e0b3, .slice e0a4 e0n4 e0c4, .string e0b5, .string e0b6]) L0) := hg
        clear hg
        have Zx16_13 : Hid (x16_12.heap.size ≤ x16_13.heap.size) := hb.size
        have Kx16_13 : Hid (Below w16.heap.size w16 x16_13) := Kx16_12.out.trans (hb.mono Kx16_12.out.size)
        have Nx16_13 : Hid (x16_13.heap[x16_0.heap.size]? = some (.cells #[.int .i64 0, .slice none 0 0, .slice none 0 0, .bool false, .slice none 0 0, .string ⟨#[]⟩, .string ⟨#[]⟩] 33 (0, 0))) := (hb.block _ (Array.getElem?_eq_some_iff.1 Nx16_12.out).1).trans Nx16_12.out
        have U2x16_13 : Hid (BookAt x16_13 u2 (xs2, es2)) := U2x16_12.out.below hb
        have U3x16_13 : Hid (BookAt x16_13 u3 (xs3, es3)) := U3x16_12.out.below hb
        clear hb
        refine hK.out _ _ ?_ (fun hHeld => ?_)
        · exact HC9.out _ Kx16_13.out
        clear hK K
        try simp only [Act.put, List.setIfInBounds_toArray, List.set_cons_zero, List.set_cons_succ]
        refine wpAnyH_takeD (i := 7) (d := 105) (v := .tuple #[.agg #[.int .i64 e0b0, .slice e0a1 e0n1 e0c1, .slice e0a2 e0n2 e0c2, .bool e0b3, .slice e0a4 e0n4 e0c4, .string e0b5, .string e0b6], .bool L1]) rfl (by kernel_rfl) (by kernel_rfl) (by kernel_rfl) (fun _ _ _ h => h) (Or.inl ⟨by rfl, by intro w hSw; (try dsimp only at hSw); go_simp⟩) (by assumption) rfl ?_
        simp only [Act.put, List.setIfInBounds_toArray, List.set_cons_zero, List.set_cons_succ]
        refine wpAnyH_takeD (i := 8) (d := 113) (v := .agg #[.int .i64 e0b0, .slice e0a1 e0n1 e0c1, .slice e0a2 e0n2 e0c2, .bool e0b3, .slice e0a4 e0n4 e0c4, .string e0b5, .string e0b6]) rfl (by kernel_rfl) (by kernel_rfl) (by kernel_rfl) (fun _ _ _ h => h) (Or.inl ⟨by rfl, by intro w hSw; (try dsimp only at hSw); go_simp⟩) (by assumption) rfl ?_
        simp only [Act.put, List.setIfInBounds_toArray, List.set_cons_zero, List.set_cons_succ]
        refine wpAnyH_takeD (i := 9) (d := 114) (v := .bool L1) rfl (by kernel_rfl) (by kernel_rfl) (by kernel_rfl) (fun _ _ _ h => h) (Or.inl ⟨by rfl, by intro w hSw; (try dsimp only at hSw); go_simp⟩) (by assumption) rfl ?_
        simp only [Act.put, List.setIfInBounds_toArray, List.set_cons_zero, List.set_cons_succ]
        refine wpAnyH_ready (rs := [11]) (by kernel_rfl) (by simp) ?_
        refine AllReadyH.cons rfl (fun K hK => ?_) AllReadyH.nil
        refine step_store_row rfl 33 (.tmp 19) (.tmp 113) rfl (x16_0.heap.size) #[.int .i64 e0b0, .slice e0a1 e0n1 e0c1, .slice e0a2 e0n2 e0c2, .bool e0b3, .slice e0a4 e0n4 e0c4, .string e0b5, .string e0b6] rfl rfl 33 _ Nx16_13.out HS9.out rfl (by simp [Value.oneCell']) rfl ?_
        obtain ⟨V, hV⟩ : ∃ X, x16_13.setRow (x16_0.heap.size) #[.int .i64 e0b0, .slice e0a1 e0n1 e0c1, .slice e0a2 e0n2 e0c2, .bool e0b3, .slice e0a4 e0n4 e0c4, .string e0b5, .string e0b6] = X := ⟨_, rfl⟩
        have KV : Hid (Below w16.heap.size w16 V) := by show Below _ _ _; rw [← hV]; exact below_setRow Kx16_13.out HQ.out _
        have NV : Hid (V.heap[x16_0.heap.size]? = some (.cells #[.int .i64 e0b0, .slice e0a1 e0n1 e0c1, .slice e0a2 e0n2 e0c2, .bool e0b3, .slice e0a4 e0n4 e0c4, .string e0b5, .string e0b6] 33 (0, 0))) := by show _ = _; rw [← hV]; exact setRow_heap _ _ _ _ _ _ Nx16_13.out
        have zx16_0 := Zx16_0.out
        have zx16_10 := Zx16_10.out
        have zx16_11 := Zx16_11.out
        have zx16_12 := Zx16_12.out
        have zx16_13 := Zx16_13.out
        have hsV : V.heap.size = x16_13.heap.size := by rw [← hV]; simp
        have GV : Hid (RelOwn x16_12.heap.size x16_13.heap.size V (.agg #[.int .i64 e0b0, .slice e0a1 e0n1 e0c1, .slice e0a2 e0n2 e0c2, .bool e0b3, .slice e0a4 e0n4 e0c4, .string e0b5, .string e0b6]) L0) := by
          show RelOwn _ _ _ _ _
          rw [← hV]
          exact relOwn_setRow486 Gx16_13.out (q := x16_0.heap.size) (by omega) _
        rw [hV]
        clear hV
        refine hK.out _ _ ?_ (fun hHeld => ?_)
        · exact HC9.out _ KV.out
        clear hK K
        try simp only [Act.put, List.setIfInBounds_toArray, List.set_cons_zero, List.set_cons_succ]
        refine wpAnyH_takeD (i := 12) (d := 20) (v := .bool L1) rfl (by kernel_rfl) (by kernel_rfl) (by kernel_rfl) (fun _ _ _ h => h) (Or.inl ⟨by rfl, by intro w hSw; (try dsimp only at hSw); go_simp⟩) (by assumption) rfl ?_
        simp only [Act.put, List.setIfInBounds_toArray, List.set_cons_zero, List.set_cons_succ]
        refine wpAnyH_done (by kernel_rfl) ?_ _
        go_wp2
        go_meet
        case rel =>
          exact ⟨_, _, _, _, _, _, _, _, _, _, _, _, _, _, _, _, rfl, rfl, NV.out, GV.out, by omega, by omega, by omega, by omega, KV.out, HQ.out⟩
    case rest =>
      obtain ⟨w17, hw17⟩ : ∃ x, x = wc := ⟨_, rfl⟩
      subst hw17
      obtain ⟨B17, lo17, hi17, e0b0, e0a1, e0n1, e0c1, e0a2, e0n2, e0c2, e0b3, e0a4, e0n4, e0c4, e0b5, e0b6, hp17, hv17_0, hr17, ha17, hl117, hl217, hl317, hl417, hh17, hl17⟩ := hcut
      subst hp17
      subst hv17_0
      have HB17 : Hid (Below w.heap.size w w17) := HB16.out.trans (hh17.mono HB16.out.size)
      have BC17 : Hid (Below w3.heap.size w3 w17) := BC16.out.trans (hh17.mono BC16.out.size)
      have c17_0_0 := (hh17.cell (p := ⟨(w.heap.size), 0, none⟩) hz16_0).trans c16_0_0
      have c17_0_1 := (hh17.cell (p := ⟨(w.heap.size), 1, none⟩) hz16_0).trans c16_0_1
      have hz17_0 : (w.heap.size) < w17.heap.size := Nat.lt_of_lt_of_le hz16_0 hh17.size
      have c17_1_0 := (hh17.cell (p := ⟨(w.heap.size + 1), 0, none⟩) hz16_1).trans c16_1_0
      have c17_1_1 := (hh17.cell (p := ⟨(w.heap.size + 1), 1, none⟩) hz16_1).trans c16_1_1
      have hz17_1 : (w.heap.size + 1) < w17.heap.size := Nat.lt_of_lt_of_le hz16_1 hh17.size
      have c17_2_0 := (hh17.cell (p := ⟨B3, 0, none⟩) hz16_2).trans c16_2_0
      have c17_2_1 := (hh17.cell (p := ⟨B3, 1, none⟩) hz16_2).trans c16_2_1
      have c17_2_2 := (hh17.cell (p := ⟨B3, 2, none⟩) hz16_2).trans c16_2_2
      have c17_2_3 := (hh17.cell (p := ⟨B3, 3, none⟩) hz16_2).trans c16_2_3
      have c17_2_4 := (hh17.cell (p := ⟨B3, 4, none⟩) hz16_2).trans c16_2_4
      have c17_2_5 := (hh17.cell (p := ⟨B3, 5, none⟩) hz16_2).trans c16_2_5
      have c17_2_6 := (hh17.cell (p := ⟨B3, 6, none⟩) hz16_2).trans c16_2_6
      have hz17_2 : B3 < w17.heap.size := Nat.lt_of_lt_of_le hz16_2 hh17.size
      have c17_3_0 := (hh17.cell (p := ⟨(w4.heap.size), 0, none⟩) hz16_3).trans c16_3_0
      have c17_3_1 := (hh17.cell (p := ⟨(w4.heap.size), 1, none⟩) hz16_3).trans c16_3_1
      have hz17_3 : (w4.heap.size) < w17.heap.size := Nat.lt_of_lt_of_le hz16_3 hh17.size
      have c17_4_0 := (hh17.cell (p := ⟨(w5.heap.size), 0, none⟩) hz16_4).trans c16_4_0
      have c17_4_1 := (hh17.cell (p := ⟨(w5.heap.size), 1, none⟩) hz16_4).trans c16_4_1
      have hz17_4 : (w5.heap.size) < w17.heap.size := Nat.lt_of_lt_of_le hz16_4 hh17.size
      have c17_5_0 := (hh17.cell (p := ⟨(w6.heap.size), 0, none⟩) hz16_5).trans c16_5_0
      have c17_5_1 := (hh17.cell (p := ⟨(w6.heap.size), 1, none⟩) hz16_5).trans c16_5_1
      have c17_5_2 := (hh17.cell (p := ⟨(w6.heap.size), 2, none⟩) hz16_5).trans c16_5_2
      have c17_5_3 := (hh17.cell (p := ⟨(w6.heap.size), 3, none⟩) hz16_5).trans c16_5_3
      have c17_5_4 := (hh17.cell (p := ⟨(w6.heap.size), 4, none⟩) hz16_5).trans c16_5_4
      have c17_5_5 := (hh17.cell (p := ⟨(w6.heap.size), 5, none⟩) hz16_5).trans c16_5_5
      have c17_5_6 := (hh17.cell (p := ⟨(w6.heap.size), 6, none⟩) hz16_5).trans c16_5_6
      have hz17_5 : (w6.heap.size) < w17.heap.size := Nat.lt_of_lt_of_le hz16_5 hh17.size
      have Q_17 : Hid (RelOwn (w5.heap.size + 1) w6.heap.size w17 (.agg #[.int .i64 g0b0, .slice g0a1 g0n1 g0c1, .slice g0a2 g0n2 g0c2, .bool g0b3, .slice g0a4 g0n4 g0c4, .string g0b5, .string g0b6]) (relMk 1 L0)) := Q_16.out.below hh17
      have c17_6_0 : w17.cell? ⟨B17, 0, none⟩ = some (.int .i64 e0b0) := by rw [cell_of_row _ _ 0 _ _ _ hr17]; rfl
      have c17_6_1 : w17.cell? ⟨B17, 1, none⟩ = some (.slice e0a1 e0n1 e0c1) := by rw [cell_of_row _ _ 1 _ _ _ hr17]; rfl
      have c17_6_2 : w17.cell? ⟨B17, 2, none⟩ = some (.slice e0a2 e0n2 e0c2) := by rw [cell_of_row _ _ 2 _ _ _ hr17]; rfl
      have c17_6_3 : w17.cell? ⟨B17, 3, none⟩ = some (.bool e0b3) := by rw [cell_of_row _ _ 3 _ _ _ hr17]; rfl
      have c17_6_4 : w17.cell? ⟨B17, 4, none⟩ = some (.slice e0a4 e0n4 e0c4) := by rw [cell_of_row _ _ 4 _ _ _ hr17]; rfl
      have c17_6_5 : w17.cell? ⟨B17, 5, none⟩ = some (.string e0b5) := by rw [cell_of_row _ _ 5 _ _ _ hr17]; rfl
      have c17_6_6 : w17.cell? ⟨B17, 6, none⟩ = some (.string e0b6) := by rw [cell_of_row _ _ 6 _ _ _ hr17]; rfl
      have hz17_6 : B17 < w17.heap.size := (Array.getElem?_eq_some_iff.1 hr17).1
      have HZ17 : Hid (w16.heap.size ≤ w17.heap.size ∧ w16.heap.size ≤ B17 ∧ B17 < w17.heap.size ∧ w16.heap.size ≤ lo17 ∧ lo17 ≤ hi17 ∧ hi17 ≤ w17.heap.size ∧ (B17 < lo17 ∨ hi17 ≤ B17)) := ⟨hh17.size, hl17, hz17_6, hl117, hl217, hl317, hl417⟩
      have HW_17 : Hid (RelAt w17 (.agg #[.int .i64 e0b0, .slice e0a1 e0n1 e0c1, .slice e0a2 e0n2 e0c2, .bool e0b3, .slice e0a4 e0n4 e0c4, .string e0b5, .string e0b6]) L0) := ha17.at
      clear c16_0_0 c16_0_1 hz16_0 c16_1_0 c16_1_1 hz16_1 c16_2_0 c16_2_1 c16_2_2 c16_2_3 c16_2_4 c16_2_5 c16_2_6 hz16_2 c16_3_0 c16_3_1 hz16_3 c16_4_0 c16_4_1 hz16_4 c16_5_0 c16_5_1 c16_5_2 c16_5_3 c16_5_4 c16_5_5 c16_5_6 hz16_5 Q_16 hh17 hr17 ha17 hl17 hl117 hl217 hl317 hl417
      go_wp2_with fail
      refine (eqRel_u _ _ _ L0 HW_17.out (HU.out.below BC17.out)).mono ?_
      rintro e w18 ⟨rfl, hb18⟩
      have hh18 : Below w17.heap.size w17 w18 := hb18
      have HB18 : Hid (Below w.heap.size w w18) := HB17.out.trans (hh18.mono HB17.out.size)
      have BC18 : Hid (Below w3.heap.size w3 w18) := BC17.out.trans (hh18.mono BC17.out.size)
      have c18_0_0 := (hh18.cell (p := ⟨(w.heap.size), 0, none⟩) hz17_0).trans c17_0_0
      have c18_0_1 := (hh18.cell (p := ⟨(w.heap.size), 1, none⟩) hz17_0).trans c17_0_1
      have hz18_0 : (w.heap.size) < w18.heap.size := Nat.lt_of_lt_of_le hz17_0 hh18.size
      have c18_1_0 := (hh18.cell (p := ⟨(w.heap.size + 1), 0, none⟩) hz17_1).trans c17_1_0
      have c18_1_1 := (hh18.cell (p := ⟨(w.heap.size + 1), 1, none⟩) hz17_1).trans c17_1_1
      have hz18_1 : (w.heap.size + 1) < w18.heap.size := Nat.lt_of_lt_of_le hz17_1 hh18.size
      have c18_2_0 := (hh18.cell (p := ⟨B3, 0, none⟩) hz17_2).trans c17_2_0
      have c18_2_1 := (hh18.cell (p := ⟨B3, 1, none⟩) hz17_2).trans c17_2_1
      have c18_2_2 := (hh18.cell (p := ⟨B3, 2, none⟩) hz17_2).trans c17_2_2
      have c18_2_3 := (hh18.cell (p := ⟨B3, 3, none⟩) hz17_2).trans c17_2_3
      have c18_2_4 := (hh18.cell (p := ⟨B3, 4, none⟩) hz17_2).trans c17_2_4
      have c18_2_5 := (hh18.cell (p := ⟨B3, 5, none⟩) hz17_2).trans c17_2_5
      have c18_2_6 := (hh18.cell (p := ⟨B3, 6, none⟩) hz17_2).trans c17_2_6
      have hz18_2 : B3 < w18.heap.size := Nat.lt_of_lt_of_le hz17_2 hh18.size
      have c18_3_0 := (hh18.cell (p := ⟨(w4.heap.size), 0, none⟩) hz17_3).trans c17_3_0
      have c18_3_1 := (hh18.cell (p := ⟨(w4.heap.size), 1, none⟩) hz17_3).trans c17_3_1
      have hz18_3 : (w4.heap.size) < w18.heap.size := Nat.lt_of_lt_of_le hz17_3 hh18.size
      have c18_4_0 := (hh18.cell (p := ⟨(w5.heap.size), 0, none⟩) hz17_4).trans c17_4_0
      have c18_4_1 := (hh18.cell (p := ⟨(w5.heap.size), 1, none⟩) hz17_4).trans c17_4_1
      have hz18_4 : (w5.heap.size) < w18.heap.size := Nat.lt_of_lt_of_le hz17_4 hh18.size
      have c18_5_0 := (hh18.cell (p := ⟨(w6.heap.size), 0, none⟩) hz17_5).trans c17_5_0
      have c18_5_1 := (hh18.cell (p := ⟨(w6.heap.size), 1, none⟩) hz17_5).trans c17_5_1
      have c18_5_2 := (hh18.cell (p := ⟨(w6.heap.size), 2, none⟩) hz17_5).trans c17_5_2
      have c18_5_3 := (hh18.cell (p := ⟨(w6.heap.size), 3, none⟩) hz17_5).trans c17_5_3
      have c18_5_4 := (hh18.cell (p := ⟨(w6.heap.size), 4, none⟩) hz17_5).trans c17_5_4
      have c18_5_5 := (hh18.cell (p := ⟨(w6.heap.size), 5, none⟩) hz17_5).trans c17_5_5
      have c18_5_6 := (hh18.cell (p := ⟨(w6.heap.size), 6, none⟩) hz17_5).trans c17_5_6
      have hz18_5 : (w6.heap.size) < w18.heap.size := Nat.lt_of_lt_of_le hz17_5 hh18.size
      have c18_6_0 := (hh18.cell (p := ⟨B17, 0, none⟩) hz17_6).trans c17_6_0
      have c18_6_1 := (hh18.cell (p := ⟨B17, 1, none⟩) hz17_6).trans c17_6_1
      have c18_6_2 := (hh18.cell (p := ⟨B17, 2, none⟩) hz17_6).trans c17_6_2
      have c18_6_3 := (hh18.cell (p := ⟨B17, 3, none⟩) hz17_6).trans c17_6_3
      have c18_6_4 := (hh18.cell (p := ⟨B17, 4, none⟩) hz17_6).trans c17_6_4
      have c18_6_5 := (hh18.cell (p := ⟨B17, 5, none⟩) hz17_6).trans c17_6_5
      have c18_6_6 := (hh18.cell (p := ⟨B17, 6, none⟩) hz17_6).trans c17_6_6
      have hz18_6 : B17 < w18.heap.size := Nat.lt_of_lt_of_le hz17_6 hh18.size
      have Q_18 : Hid (RelOwn (w5.heap.size + 1) w6.heap.size w18 (.agg #[.int .i64 g0b0, .slice g0a1 g0n1 g0c1, .slice g0a2 g0n2 g0c2, .bool g0b3, .slice g0a4 g0n4 g0c4, .string g0b5, .string g0b6]) (relMk 1 L0)) := Q_17.out.below hh18
      have HW_18 : Hid (RelAt w18 (.agg #[.int .i64 e0b0, .slice e0a1 e0n1 e0c1, .slice e0a2 e0n2 e0c2, .bool e0b3, .slice e0a4 e0n4 e0c4, .string e0b5, .string e0b6]) L0) := HW_17.out.below hh18
      have HZ18 : Hid (w17.heap.size ≤ w18.heap.size) := hh18.size
      clear c17_0_0 c17_0_1 hz17_0 c17_1_0 c17_1_1 hz17_1 c17_2_0 c17_2_1 c17_2_2 c17_2_3 c17_2_4 c17_2_5 c17_2_6 hz17_2 c17_3_0 c17_3_1 hz17_3 c17_4_0 c17_4_1 hz17_4 c17_5_0 c17_5_1 c17_5_2 c17_5_3 c17_5_4 c17_5_5 c17_5_6 hz17_5 c17_6_0 c17_6_1 c17_6_2 c17_6_3 c17_6_4 c17_6_5 c17_6_6 hz17_6 Q_17 HW_17 hb18 hh18
      go_wp2_with fail
      refine (cK (heldRel_u _ _ 1 L0 (Q_18.out).at HSM.out (by omega)) HKM.out).mono ?_
      rintro e w19 ⟨rfl, hb19⟩
      have hh19 : Below w18.heap.size w18 w19 := hb19
      have HB19 : Hid (Below w.heap.size w w19) := HB18.out.trans (hh19.mono HB18.out.size)
      have BC19 : Hid (Below w3.heap.size w3 w19) := BC18.out.trans (hh19.mono BC18.out.size)
      have c19_0_0 := (hh19.cell (p := ⟨(w.heap.size), 0, none⟩) hz18_0).trans c18_0_0
      have c19_0_1 := (hh19.cell (p := ⟨(w.heap.size), 1, none⟩) hz18_0).trans c18_0_1
      have hz19_0 : (w.heap.size) < w19.heap.size := Nat.lt_of_lt_of_le hz18_0 hh19.size
      have c19_1_0 := (hh19.cell (p := ⟨(w.heap.size + 1), 0, none⟩) hz18_1).trans c18_1_0
      have c19_1_1 := (hh19.cell (p := ⟨(w.heap.size + 1), 1, none⟩) hz18_1).trans c18_1_1
      have hz19_1 : (w.heap.size + 1) < w19.heap.size := Nat.lt_of_lt_of_le hz18_1 hh19.size
      have c19_2_0 := (hh19.cell (p := ⟨B3, 0, none⟩) hz18_2).trans c18_2_0
      have c19_2_1 := (hh19.cell (p := ⟨B3, 1, none⟩) hz18_2).trans c18_2_1
      have c19_2_2 := (hh19.cell (p := ⟨B3, 2, none⟩) hz18_2).trans c18_2_2
      have c19_2_3 := (hh19.cell (p := ⟨B3, 3, none⟩) hz18_2).trans c18_2_3
      have c19_2_4 := (hh19.cell (p := ⟨B3, 4, none⟩) hz18_2).trans c18_2_4
      have c19_2_5 := (hh19.cell (p := ⟨B3, 5, none⟩) hz18_2).trans c18_2_5
      have c19_2_6 := (hh19.cell (p := ⟨B3, 6, none⟩) hz18_2).trans c18_2_6
      have hz19_2 : B3 < w19.heap.size := Nat.lt_of_lt_of_le hz18_2 hh19.size
      have c19_3_0 := (hh19.cell (p := ⟨(w4.heap.size), 0, none⟩) hz18_3).trans c18_3_0
      have c19_3_1 := (hh19.cell (p := ⟨(w4.heap.size), 1, none⟩) hz18_3).trans c18_3_1
      have hz19_3 : (w4.heap.size) < w19.heap.size := Nat.lt_of_lt_of_le hz18_3 hh19.size
      have c19_4_0 := (hh19.cell (p := ⟨(w5.heap.size), 0, none⟩) hz18_4).trans c18_4_0
      have c19_4_1 := (hh19.cell (p := ⟨(w5.heap.size), 1, none⟩) hz18_4).trans c18_4_1
      have hz19_4 : (w5.heap.size) < w19.heap.size := Nat.lt_of_lt_of_le hz18_4 hh19.size
      have c19_5_0 := (hh19.cell (p := ⟨(w6.heap.size), 0, none⟩) hz18_5).trans c18_5_0
      have c19_5_1 := (hh19.cell (p := ⟨(w6.heap.size), 1, none⟩) hz18_5).trans c18_5_1
      have c19_5_2 := (hh19.cell (p := ⟨(w6.heap.size), 2, none⟩) hz18_5).trans c18_5_2
      have c19_5_3 := (hh19.cell (p := ⟨(w6.heap.size), 3, none⟩) hz18_5).trans c18_5_3
      have c19_5_4 := (hh19.cell (p := ⟨(w6.heap.size), 4, none⟩) hz18_5).trans c18_5_4
      have c19_5_5 := (hh19.cell (p := ⟨(w6.heap.size), 5, none⟩) hz18_5).trans c18_5_5
      have c19_5_6 := (hh19.cell (p := ⟨(w6.heap.size), 6, none⟩) hz18_5).trans c18_5_6
      have hz19_5 : (w6.heap.size) < w19.heap.size := Nat.lt_of_lt_of_le hz18_5 hh19.size
      have c19_6_0 := (hh19.cell (p := ⟨B17, 0, none⟩) hz18_6).trans c18_6_0
      have c19_6_1 := (hh19.cell (p := ⟨B17, 1, none⟩) hz18_6).trans c18_6_1
      have c19_6_2 := (hh19.cell (p := ⟨B17, 2, none⟩) hz18_6).trans c18_6_2
      have c19_6_3 := (hh19.cell (p := ⟨B17, 3, none⟩) hz18_6).trans c18_6_3
      have c19_6_4 := (hh19.cell (p := ⟨B17, 4, none⟩) hz18_6).trans c18_6_4
      have c19_6_5 := (hh19.cell (p := ⟨B17, 5, none⟩) hz18_6).trans c18_6_5
      have c19_6_6 := (hh19.cell (p := ⟨B17, 6, none⟩) hz18_6).trans c18_6_6
      have hz19_6 : B17 < w19.heap.size := Nat.lt_of_lt_of_le hz18_6 hh19.size
      have Q_19 : Hid (RelOwn (w5.heap.size + 1) w6.heap.size w19 (.agg #[.int .i64 g0b0, .slice g0a1 g0n1 g0c1, .slice g0a2 g0n2 g0c2, .bool g0b3, .slice g0a4 g0n4 g0c4, .string g0b5, .string g0b6]) (relMk 1 L0)) := Q_18.out.below hh19
      have HW_19 : Hid (RelAt w19 (.agg #[.int .i64 e0b0, .slice e0a1 e0n1 e0c1, .slice e0a2 e0n2 e0c2, .bool e0b3, .slice e0a4 e0n4 e0c4, .string e0b5, .string e0b6]) L0) := HW_18.out.below hh19
      have HZ19 : Hid (w18.heap.size ≤ w19.heap.size) := hh19.size
      clear c18_0_0 c18_0_1 hz18_0 c18_1_0 c18_1_1 hz18_1 c18_2_0 c18_2_1 c18_2_2 c18_2_3 c18_2_4 c18_2_5 c18_2_6 hz18_2 c18_3_0 c18_3_1 hz18_3 c18_4_0 c18_4_1 hz18_4 c18_5_0 c18_5_1 c18_5_2 c18_5_3 c18_5_4 c18_5_5 c18_5_6 hz18_5 c18_6_0 c18_6_1 c18_6_2 c18_6_3 c18_6_4 c18_6_5 c18_6_6 hz18_6 Q_18 HW_18 hb19 hh19
      go_wp2
      go_ret
      exact ⟨rfl, HB19.out⟩
end Go.Proofs.YtcdgikhkjpneiaaGreatDoor
