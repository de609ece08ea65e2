/-
  Two drawn letters; the law FnKeyFar.
-/
import Derived.Test.YtbebikodkfmehaaDoorW311
import Derived.Test.YtbebikodkfmehaaDoorGW9
import Derived.Laws.BytesArg
namespace Go.Proofs.YtbebikodkfmehaaDoor
open Go.RowKit
set_option linter.unusedVariables false
theorem conv_let (j b : Nat) (x : Int) (hx : x = 97 + (j : Int)) (wx : World) (h : wx.cell? ⟨b, 0, none⟩ = some (.int .u8 x)) :
    (convert 22 9 (.slice (some ⟨b, 0, none⟩) 1 1)).run Tryd.prog wx = .ok (.string ⟨#[UInt8.ofNat (97 + j)]⟩) wx := by
  have h1 := run_convert_bytes_arg (P := Tryd.prog) wx 22 5 Tryd.underlying22 Tryd.underlying5 b 0 1 1 [97 + (j : Int)] rfl (fun i hi => by
    have : i = 0 := by omega
    subst this
    rw [← hx]
    exact h) 9 Tryd.underlying9
  rw [h1]
  have e : (97 + (j : Int)).toNat = 97 + j := by omega
  simp [strOfNums, e]
theorem ret_two {a b c d : ByteArray} (h : a = c) (g : b = d) : Ending.returned (.tuple #[.string a, .string b]) = .returned (.tuple #[.string c, .string d]) := by rw [h, g]
set_option maxHeartbeats 2000000 in
theorem drawKeyFar_any (w : World) (a : Option Addr) (len cap : Nat) (zs : List Int) (h : IsRow .u8 w a len cap zs) :
    Calls Tryd.prog 5 #[.slice a len cap] w fun e w' => ∃ s t, e = .returned (.tuple #[.string s, .string t]) ∧ s.size ≤ 2 ∧ t.size ≤ 2 ∧ Below w.heap.size w w' := by
  go_enter Tryd.func5, Tryd.ntmps5
  go_wp2_with fail
  refine (open_any w a len cap zs h).mono ?_
  rintro e w1 ⟨rfl, hr1, hb1⟩
  have HR1 : Hid (RdAt w1 w.heap.size 0) := hr1
  clear hr1
  go_wp2_with fail
  refine (pick_any w1 w.heap.size 0 26 HR1.out (by omega) (by omega)).mono ?_
  rintro e w2 ⟨v, rfl, hv0, hv1, hr2, hk2⟩
  have HR2 : Hid (RdAt w2 w.heap.size 1) := hr2
  have HK2 : Hid (Kept w.heap.size w1 w2) := hk2
  have hv2 := hv1 (by omega)
  obtain ⟨j, rfl⟩ := Int.eq_ofNat_of_zero_le hv0
  have hj : j < 26 := by omega
  have hj' : (j : Int) < 26 := by omega
  have hw1 : IntKind.u8.wrap (97 + (j : Int)) = 97 + (j : Int) := by simp [IntKind.wrap, IntKind.bits, IntKind.signed]; omega
  obtain ⟨L, hL⟩ : ∃ L : ByteArray, (⟨#[UInt8.ofNat (97 + j)]⟩ : ByteArray) = L := ⟨_, rfl⟩
  have hLs : L.size = 1 := by rw [← hL]; rfl
  have hc : ∀ (b : Nat) (x : Int), x = 97 + (j : Int) → ∀ wx : World, wx.cell? ⟨b, 0, none⟩ = some (.int .u8 x) → (convert 22 9 (.slice (some ⟨b, 0, none⟩) 1 1)).run Tryd.prog wx = .ok (.string L) wx := fun b x hx wx h => by rw [← hL]; exact conv_let j b x hx wx h
  clear hL hv1 hr2 hk2
  go_wp2_with fail
  refine (pick_any _ w.heap.size 1 26 (HR2.out.alloc _) (by omega) (by omega)).mono ?_
  rintro e w3 ⟨v, rfl, gv0, gv1, hr3, hk3⟩
  have HR3 : Hid (RdAt w3 w.heap.size 2) := hr3
  have HK3 : Hid (Kept w.heap.size w1 w3) := (HK2.out.alloc _).trans hk3
  have gv2 := gv1 (by omega)
  obtain ⟨i, rfl⟩ := Int.eq_ofNat_of_zero_le gv0
  have hi : i < 26 := by omega
  have hi' : (i : Int) < 26 := by omega
  have hw2 : IntKind.u8.wrap (97 + (i : Int)) = 97 + (i : Int) := by simp [IntKind.wrap, IntKind.bits, IntKind.signed]; omega
  obtain ⟨M, hM⟩ : ∃ L : ByteArray, (⟨#[UInt8.ofNat (97 + i)]⟩ : ByteArray) = L := ⟨_, rfl⟩
  have hMs : M.size = 1 := by rw [← hM]; rfl
  have hd : ∀ (b : Nat) (x : Int), x = 97 + (i : Int) → ∀ wx : World, wx.cell? ⟨b, 0, none⟩ = some (.int .u8 x) → (convert 22 9 (.slice (some ⟨b, 0, none⟩) 1 1)).run Tryd.prog wx = .ok (.string M) wx := fun b x hx wx h => by rw [← hM]; exact conv_let i b x hx wx h
  clear hM gv1 hr3 hk3 hc
  go_wp2_with fail
  have HL : Hid (∀ k, k < 5 → ∃ s : ByteArray, ((w3.alloc (.cells #[.int .u8 (97 + (i : Int))] 5)).alloc (.cells #[.string M, .string L, .string ⟨#[]⟩, .string ⟨#[65]⟩, .string ⟨#[97, 98]⟩] 9)).cell? ⟨w3.heap.size + 1, k, none⟩ = some (.string s) ∧ s.size ≤ 2) := by
    intro k hk
    have hx := lit_texts 2 (w3.alloc (.cells #[.int .u8 (97 + (i : Int))] 5)) #[.string M, .string L, .string ⟨#[]⟩, .string ⟨#[65]⟩, .string ⟨#[97, 98]⟩] 9 (by simp [shortV, hLs, hMs]; decide) k hk
    rw [World.size_alloc] at hx
    exact hx
  refine (of_any (fun s => s.size ≤ 2) _ w.heap.size 2 (w3.heap.size + 1) 5 5 ((HR3.out.alloc _).alloc _) (by omega) (by omega) (by omega) HL.out (by have := HR3.out.lt; omega)).mono ?_
  rintro e w4 ⟨t, rfl, ht, hr4, hk4⟩
  have HK4 : Hid (Kept w.heap.size w1 w4) := ((HK3.out.alloc _).alloc _).trans hk4
  clear hd HL hr4 hk4
  go_wp2_with fail
  refine bodyPost_ret (v := .tuple #[.string L, .string t]) (by simp [results, Tryd.results5, go_sem]) rfl ⟨L, t, rfl, by omega, ht, ?_⟩
  exact HK4.out.below hb1 (Nat.le_refl _)
theorem apI_comm (a b : Int) : apI a b = apI b a := by unfold apI; split <;> split <;> omega
theorem apI_zero (a b : Int) : apI a b = 0 ↔ a = b := by unfold apI; split <;> omega
theorem apI_nn (a b : Int) : 0 ≤ apI a b := by unfold apI; split <;> omega
theorem kfB_comm (p q : Int × Int) : kfB p q = kfB q p := by unfold kfB; rw [apI_comm p.1 q.1, apI_comm p.2 q.2]
theorem kfB_bounds (p q : Int × Int) : 0 ≤ kfB p q ∧ kfB p q ≤ 4 := by
  have h1 := apI_nn p.1 q.1
  have h2 := apI_nn p.2 q.2
  unfold kfB ls; split <;> split <;> omega
theorem kfB_zero (p q : Int × Int) : kfB p q = 0 ↔ p = q := by
  have h1 := apI_nn p.1 q.1
  have h2 := apI_nn p.2 q.2
  have h3 := apI_zero p.1 q.1
  have h4 := apI_zero p.2 q.2
  constructor
  · intro h
    have : apI p.1 q.1 = 0 ∧ apI p.2 q.2 = 0 := by
      unfold kfB ls at h
      split at h <;> split at h <;> omega
    exact Prod.ext (h3.1 this.1) (h4.1 this.2)
  · rintro rfl
    have e1 := h3.2 rfl
    have e2 := h4.2 rfl
    unfold kfB ls; rw [e1, e2]; rfl
theorem kp_inj_all : ∀ n m : Fin 26, kpB (UInt8.ofNat (97 + n.val)) = kpB (UInt8.ofNat (97 + m.val)) → n = m := by decide +kernel
theorem kp_inj (c d : UInt8) (hc : 0 ≤ (kpB c).1) (hd : 0 ≤ (kpB d).1) (h : kpB c = kpB d) : c = d := by
  have f1 := (kp_facts c).1
  have f2 := (kp_facts d).1
  rw [decide_eq_true hc] at f1
  rw [decide_eq_true hd] at f2
  simp only [Bool.and_eq_true, decide_eq_true_eq] at f1 f2
  have e1 : UInt8.ofNat (97 + (c.toNat - 97)) = c := by rw [show 97 + (c.toNat - 97) = c.toNat by omega]; simp
  have e2 : UInt8.ofNat (97 + (d.toNat - 97)) = d := by rw [show 97 + (d.toNat - 97) = d.toNat by omega]; simp
  have k := kp_inj_all ⟨c.toNat - 97, by omega⟩ ⟨d.toNat - 97, by omega⟩ (by simp only; rw [e1, e2]; exact h)
  have k2 := congrArg Fin.val k
  simp only at k2
  exact UInt8.toNat_inj.1 (by omega)
theorem kfT_comm (a b : ByteArray) : kfT a b = kfT b a := by
  unfold kfT
  rw [kfB_comm]
  by_cases h : (kpT a).1 < 0 ∨ (kpT b).1 < 0
  · rw [if_pos h, if_pos h.symm]
  · rw [if_neg h, if_neg (fun g => h g.symm)]
theorem kfT_le (a b : ByteArray) : kfT a b ≤ 4 := by
  have := kfB_bounds (kpT a) (kpT b)
  unfold kfT; split <;> omega
theorem kfT_zero (a b : ByteArray) (h : ¬ kfT a b < 0) : (kfT a b == 0) = (a.toList == b.toList) := by
  have hn : ¬ ((kpT a).1 < 0 ∨ (kpT b).1 < 0) := by
    intro g; unfold kfT at h; rw [if_pos g] at h; exact h (by decide)
  have he : kfT a b = kfB (kpT a) (kpT b) := by unfold kfT; rw [if_neg hn]
  have s1 : a.size = 1 := Classical.byContradiction fun g => hn (.inl (by rw [kpT_other a g]; decide))
  have s2 : b.size = 1 := Classical.byContradiction fun g => hn (.inr (by rw [kpT_other b g]; decide))
  obtain ⟨c, rfl⟩ := one_byte a s1
  obtain ⟨d, rfl⟩ := one_byte b s2
  rw [kpT_one, kpT_one] at he hn
  have hl : ((⟨#[c]⟩ : ByteArray).toList == (⟨#[d]⟩ : ByteArray).toList) = (c == d) := by
    rw [ByteArray.toList_eq, ByteArray.toList_eq]
    show ([c] == [d]) = _
    simp
  rw [he, hl, Bool.eq_iff_iff]
  simp only [beq_iff_eq]
  rw [kfB_zero]
  constructor
  · intro h; exact kp_inj c d (by omega) (by omega) h
  · rintro rfl; rfl
set_option maxHeartbeats 2000000 in
theorem fnKeyFar_walk (a : Option Addr) (len cap : Nat) (zs : List Int) (w : World) (h : IsRow .u8 w a len cap zs) (ht : keyTab w) :
    Calls Tryd.prog 3 #[.slice a len cap] w fun e w' => e = .returned (.bool true) ∧ Below w.heap.size w w' := by
  by_cases h1 : (1048576 : Int) < (len : Int)
  · clear h ht
    go_enter Tryd.func3, Tryd.ntmps3
    go_wp2
    go_ret
    exact ⟨rfl, Below.refl _ _⟩
  have HI : Hid (IsRow .u8 w a len cap zs) := h
  have HT : Hid (keyTab w) := ht
  clear h ht
  go_enter Tryd.func3, Tryd.ntmps3
  go_wp2_with fail
  refine (drawKeyFar_any w a len cap zs HI.out).mono ?_
  rintro e w1 ⟨s, t, rfl, hs, ht, hb1⟩
  have HT1 : Hid (keyTab w1) := HT.out.below hb1
  have HB1 : Hid (Below w.heap.size w w1) := hb1
  have HS : Hid (s.size ≤ maxLen) := by show _ ≤ _; unfold maxLen; omega
  have HU : Hid (t.size ≤ maxLen) := by show _ ≤ _; unfold maxLen; omega
  have HQ : Hid (kfT t s = kfT s t) := kfT_comm t s
  have hle := kfT_le s t
  have HZ : Hid (¬ kfT s t < 0 → (kfT s t == 0) = (s.toList == t.toList)) := kfT_zero s t
  obtain ⟨n, hn⟩ : ∃ n, kfT s t = n := ⟨_, rfl⟩
  rw [hn] at HQ hle HZ
  have HN : Hid (kfT s t = n) := hn
  clear hn HT hb1
  have HM1 : Hid True := trivial
  by_cases hneg : n < 0
  · go_wp2_with (go_at_call 6; refine (implKeyFar_any s t _ HS.out HU.out HT1.out).mono ?_; rintro e w' ⟨he, rfl⟩; rw [HN.out] at he; subst he)
    refine (specKeyFar_any s t _ HS.out HU.out).mono ?_
    rintro e w2 ⟨he, hb2⟩
    rw [HN.out] at he
    subst he
    have HB2 : Hid (Below w.heap.size w w2) := HB1.out.trans (hb2.mono HB1.out.size)
    clear hb2
    go_wp2_with fail
    refine (specKeyFar_any s t _ HS.out HU.out).mono ?_
    rintro e w3 ⟨he, hb3⟩
    rw [HN.out] at he
    subst he
    have HB3 : Hid (Below w.heap.size w w3) := HB2.out.trans (hb3.mono HB2.out.size)
    clear hb3
    go_wp2_with fail
    go_ret
    exact ⟨rfl, HB3.out⟩
  · have hz := HZ.out hneg
    have HZ2 : Hid ((n == 0) = (s.toList == t.toList)) := hz
    clear hz HZ
    go_wp2_with (go_at_call 6; refine (implKeyFar_any s t _ HS.out HU.out HT1.out).mono ?_; rintro e w' ⟨he, rfl⟩; rw [HN.out] at he; subst he)
    refine (specKeyFar_any s t _ HS.out HU.out).mono ?_
    rintro e w2 ⟨he, hb2⟩
    rw [HN.out] at he
    subst he
    have HB2 : Hid (Below w.heap.size w w2) := HB1.out.trans (hb2.mono HB1.out.size)
    have HT2 : Hid (keyTab w2) := HT1.out.below hb2
    clear hb2
    cases hst : (s.toList == t.toList)
    all_goals
      have HZ3 : Hid _ := HZ2.out
      rw [hst] at HZ3
      have hz := HZ3.out
      go_wp2_with (go_at_call 6; refine (implKeyFar_any t s _ HU.out HS.out HT2.out).mono ?_; rintro e w' ⟨he, rfl⟩; rw [HQ.out] at he; subst he)
      go_ret
      exact ⟨by simp, HB2.out⟩
end Go.Proofs.YtbebikodkfmehaaDoor
