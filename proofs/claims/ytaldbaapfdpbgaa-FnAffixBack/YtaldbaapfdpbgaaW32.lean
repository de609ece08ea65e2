/-
  The law FnAffixDo returns true.
-/
import Derived.Test.YtaldbaapfdpbgaaW31
namespace Go.Proofs.Ytaldbaapfdpbgaa
open Go.RowKit
set_option linter.unusedVariables false
/-- The five cells of an affix. -/
def At5 (b : Nat) (f : ByteArray) (fr : Bool) (st ad wh : ByteArray) (w : World) : Prop :=
  w.cell? ⟨b, 0, none⟩ = some (.string f) ∧ w.cell? ⟨b, 1, none⟩ = some (.bool fr) ∧ w.cell? ⟨b, 2, none⟩ = some (.string st) ∧ w.cell? ⟨b, 3, none⟩ = some (.string ad) ∧ w.cell? ⟨b, 4, none⟩ = some (.string wh)
theorem At5.keep {b : Nat} {f : ByteArray} {fr : Bool} {st ad wh : ByteArray} {W w' : World} (h : At5 b f fr st ad wh W) (hb : Below W.heap.size W w') (hlt : b < W.heap.size) : At5 b f fr st ad wh w' := by
  have hc := bcell hb
  unfold At5
  rw [hc b 0 hlt, hc b 1 hlt, hc b 2 hlt, hc b 3 hlt, hc b 4 hlt]
  exact h
theorem At5.drew {b : Nat} {f : ByteArray} {fr : Bool} {st ad wh : ByteArray} {W : World} (h : At5 b f fr st ad wh W) : At5 b f fr st ad wh W.drew := h
theorem at5_new (w : World) (f : ByteArray) (fr : Bool) (st ad wh : ByteArray) (t : TypeId) : At5 w.heap.size f fr st ad wh (w.alloc (.cells #[.string f, .bool fr, .string st, .string ad, .string wh] t)) := by
  have hB := heap_alloc_last w (.cells #[.string f, .bool fr, .string st, .string ad, .string wh] t)
  exact ⟨(cell_of_row _ _ 0 _ _ _ hB).trans rfl, (cell_of_row _ _ 1 _ _ _ hB).trans rfl, (cell_of_row _ _ 2 _ _ _ hB).trans rfl, (cell_of_row _ _ 3 _ _ _ hB).trans rfl, (cell_of_row _ _ 4 _ _ _ hB).trans rfl⟩
theorem do_back {a : Aff} {s : ByteArray} (h : (doT a s).2 = true) :
    backT a (doT a s).1 = (s, true) ∧ hasT a.front (doT a s).1 a.add = true ∧ (doT a s).1.size + a.strip.size = s.size + a.add.size ∧ affOk a = true ∧ wok s = true ∧ wok (doT a s).1 = true := by
  cases hc : (affOk a && (wok s && (hasT a.front s a.wh && wok (swT a.front s a.strip a.add)))) with
  | false => rw [doT_no hc] at h; cases h
  | true =>
    rw [doT_yes hc]
    simp only [Bool.and_eq_true] at hc
    obtain ⟨h1, h2, h3, h4⟩ := hc
    have h5 := hasT_trans h3 (affOk_parts h1).2.2.2
    obtain ⟨k1, k2, k3⟩ := swT_back (q := a.add) h5
    refine ⟨?_, k2, k3, h1, h2, h4⟩
    rw [backT_yes (by simp [h1, h4, k2, k1, h2, h3]), k1]
theorem back_do {a : Aff} {s : ByteArray} (h : (backT a s).2 = true) : doT a (backT a s).1 = (s, true) ∧ (backT a s).1.size ≤ 12 := by
  cases hc : (affOk a && (wok s && (hasT a.front s a.add && (wok (swT a.front s a.add a.strip) && hasT a.front (swT a.front s a.add a.strip) a.wh)))) with
  | false => rw [backT_no hc] at h; cases h
  | true =>
    rw [backT_yes hc]
    simp only [Bool.and_eq_true] at hc
    obtain ⟨h1, h2, h3, h4, h5⟩ := hc
    obtain ⟨k1, k2, k3⟩ := swT_back (q := a.strip) h3
    refine ⟨?_, (wok_sz h4).2⟩
    rw [doT_yes (by simp [h1, h4, h5, k1, h2]), k1]
set_option maxRecDepth 100000 in
set_option maxHeartbeats 2000000 in
theorem fnAffixDo_walk (a : Option Addr) (len cap : Nat) (zs : List Int) (w : World) (h : IsRow .u8 w a len cap zs) :
    Calls Try.prog 8 #[.slice a len cap] w fun e w' => e = .returned (.bool true) ∧ Below w.heap.size w w' := by
  by_cases h1 : (1048576 : Int) < (len : Int)
  · clear h
    go_enter Try.func8, Try.ntmps8
    go_wp2
    go_ret
    exact ⟨rfl, Below.refl _ _⟩
  have HI : Hid (IsRow .u8 w a len cap zs) := h
  clear h
  go_enter Try.func8, Try.ntmps8
  go_wp2_with fail
  refine (drawAffixDo_any w a len cap zs HI.out).mono ?_
  rintro e w1 ⟨⟨f, fr, st, ad, wh⟩, s, rfl, hsm, hs, hb1⟩
  have HF : Hid (Aff.fits ⟨f, fr, st, ad, wh⟩) := hsm.fits
  have HMS : Hid (s.size ≤ maxLen) := show s.size ≤ maxLen by unfold maxLen; omega
  clear hsm
  unfold Aff.cells
  go_wp2_with fail
  refine (implAffixDo_any ⟨f, fr, st, ad, wh⟩ s _ HF.out HMS.out).mono ?_
  rintro e w2 ⟨rfl, hb2⟩
  have hb2' : Below w.heap.size w w2 := (hb1.alloc hb1.size _).trans (hb2.mono (by have := hb1.size; simp only [World.size_alloc]; omega))
  have hc2 := bcell hb2
  have hz2 : w1.heap.size < w2.heap.size := by have := hb2.size; simp only [World.size_alloc] at this; omega
  have HS2 : Hid (At5 w1.heap.size f fr st ad wh w2) := (at5_new w1 f fr st ad wh _).keep hb2 (by simp only [World.size_alloc]; omega)
  clear hb2 hb1
  obtain ⟨m, ok, hr⟩ : ∃ m ok, doT ⟨f, fr, st, ad, wh⟩ s = (m, ok) := ⟨_, _, rfl⟩
  have HR : Hid (doT ⟨f, fr, st, ad, wh⟩ s = (m, ok)) := hr
  rw [hr]
  clear hr
  dsimp only
  go_wp2_with fail
  refine (specAffixDo_any ⟨f, fr, st, ad, wh⟩ s _ HF.out HMS.out).mono ?_
  rintro e w3 ⟨rfl, hb3⟩
  have hb3' : Below w.heap.size w w3 := hb2'.trans (hb3.mono hb2'.size)
  have hc3 := bcell hb3
  have hz3 : w1.heap.size < w3.heap.size := by have := hb3.size; omega
  have HS3 : Hid (At5 w1.heap.size f fr st ad wh w3) := HS2.out.keep hb3 hz2
  clear hb3
  rw [HR.out]
  dsimp only
  cases ok with
  | false =>
    go_wp2_with fail
    go_region_held3 (fun w' => w'.cell? ⟨w1.heap.size, 0, none⟩ = some (.string f) ∧ w'.cell? ⟨w1.heap.size, 1, none⟩ = some (.bool fr) ∧ w'.cell? ⟨w1.heap.size, 2, none⟩ = some (.string st) ∧ w'.cell? ⟨w1.heap.size, 3, none⟩ = some (.string ad) ∧ w'.cell? ⟨w1.heap.size, 4, none⟩ = some (.string wh)) (first | exact (HS3.out.drew.keep hb4 hz3).keep hb5 hz4 | exact HS3.out.drew.keep hb4 hz3 | exact HS3.out)
      (first | (go_at_call 35; refine (implAffixOk_any ⟨f, fr, st, ad, wh⟩ _ HF.out).mono ?_; rintro e w4 ⟨rfl, hb4⟩; have hc4 := bcell hb4; have hz4 : w1.heap.size < w4.heap.size := (by have := hb4.size; simp at this; omega)) | (go_at_call 36; refine (specAffixOk_any ⟨f, fr, st, ad, wh⟩ _ HF.out).mono ?_; rintro e w5 ⟨rfl, hb5⟩; have hc5 := bcell hb5; have hz5 : w1.heap.size < w5.heap.size := (by have := hb5.size; omega)))
    have hb5' : Below w.heap.size w w5 := (hb3'.drew.trans (hb4.mono hb3'.size)).trans (hb5.mono (Nat.le_trans hb3'.size hb4.size))
    have HS5 : Hid (At5 w1.heap.size f fr st ad wh w5) := (HS3.out.drew.keep hb4 hz3).keep hb5 hz4
    clear hb4 hb5
    go_wp2_with fail
    go_region_held3 (fun w' => w'.cell? ⟨w1.heap.size, 0, none⟩ = some (.string f) ∧ w'.cell? ⟨w1.heap.size, 1, none⟩ = some (.bool fr) ∧ w'.cell? ⟨w1.heap.size, 2, none⟩ = some (.string st) ∧ w'.cell? ⟨w1.heap.size, 3, none⟩ = some (.string ad) ∧ w'.cell? ⟨w1.heap.size, 4, none⟩ = some (.string wh)) (first | exact (HS5.out.drew.keep hb6 hz5).keep hb7 hz6 | exact HS5.out.drew.keep hb6 hz5 | exact HS5.out)
      (first | (go_at_call 35; refine (implAffixOk_any ⟨f, fr, st, ad, wh⟩ _ HF.out).mono ?_; rintro e w6 ⟨rfl, hb6⟩; have hc6 := bcell hb6; have hz6 : w1.heap.size < w6.heap.size := (by have := hb6.size; simp at this; omega)) | (go_at_call 36; refine (specAffixOk_any ⟨f, fr, st, ad, wh⟩ _ HF.out).mono ?_; rintro e w7 ⟨rfl, hb7⟩; have hc7 := bcell hb7; have hz7 : w1.heap.size < w7.heap.size := (by have := hb7.size; omega)))
    have hb7' : Below w.heap.size w w7 := (hb5'.drew.trans (hb6.mono hb5'.size)).trans (hb7.mono (Nat.le_trans hb5'.size hb6.size))
    have HS7 : Hid (At5 w1.heap.size f fr st ad wh w7) := (HS5.out.drew.keep hb6 hz5).keep hb7 hz6
    clear hb6 hb7
    go_wp2_with fail
    go_ret
    exact ⟨rfl, hb7'⟩
  | true =>
    have HD : Hid (backT ⟨f, fr, st, ad, wh⟩ m = (s, true) ∧ hasT fr m ad = true ∧ m.size + st.size = s.size + ad.size ∧ affOk ⟨f, fr, st, ad, wh⟩ = true ∧ wok s = true ∧ wok m = true) := by
      have := do_back (a := ⟨f, fr, st, ad, wh⟩) (s := s) (by rw [HR.out])
      rw [HR.out] at this
      exact this
    go_wp2_with fail
    go_region_held3 (fun w' => w'.cell? ⟨w1.heap.size, 0, none⟩ = some (.string f) ∧ w'.cell? ⟨w1.heap.size, 1, none⟩ = some (.bool fr) ∧ w'.cell? ⟨w1.heap.size, 2, none⟩ = some (.string st) ∧ w'.cell? ⟨w1.heap.size, 3, none⟩ = some (.string ad) ∧ w'.cell? ⟨w1.heap.size, 4, none⟩ = some (.string wh)) (first | exact (HS3.out.drew.keep hb4 hz3).keep hb5 hz4 | exact HS3.out.drew.keep hb4 hz3 | exact HS3.out)
      (first | (go_at_call 35; refine (implAffixOk_any ⟨f, fr, st, ad, wh⟩ _ HF.out).mono ?_; rintro e w4 ⟨rfl, hb4⟩; have hc4 := bcell hb4; have hz4 : w1.heap.size < w4.heap.size := (by have := hb4.size; simp at this; omega)) | (go_at_call 36; refine (specAffixOk_any ⟨f, fr, st, ad, wh⟩ _ HF.out).mono ?_; rintro e w5 ⟨rfl, hb5⟩; have hc5 := bcell hb5; have hz5 : w1.heap.size < w5.heap.size := (by have := hb5.size; omega)))
    have hb5' : Below w.heap.size w w5 := (hb3'.drew.trans (hb4.mono hb3'.size)).trans (hb5.mono (Nat.le_trans hb3'.size hb4.size))
    have HS5 : Hid (At5 w1.heap.size f fr st ad wh w5) := (HS3.out.drew.keep hb4 hz3).keep hb5 hz4
    clear hb4 hb5
    obtain ⟨g0, g1, g2, g3, g4⟩ := HS5.out
    clear hc2 hc3 hc4 hc5
    have HM : Hid (m.size ≤ maxLen) := show m.size ≤ maxLen by have := (wok_sz HD.out.2.2.2.2.2).2; unfold maxLen; omega
    go_wp2_with fail
    refine (implAffixBack_any ⟨f, fr, st, ad, wh⟩ m _ HF.out HM.out).mono ?_
    rintro e w6 ⟨rfl, hb6⟩
    have hb6' : Below w.heap.size w w6 := hb5'.trans (hb6.mono hb5'.size)
    have hc6 := bcell hb6
    have hz6 : w1.heap.size < w6.heap.size := by have := hb6.size; omega
    have HS6 : Hid (At5 w1.heap.size f fr st ad wh w6) := HS5.out.keep hb6 hz5
    clear hb6 hc6 g0 g1 g2 g3 g4
    obtain ⟨g0, g1, g2, g3, g4⟩ := HS6.out
    rw [HD.out.1]
    dsimp only
    have hsz := HD.out.2.2.1
    have hm12 := (wok_sz HD.out.2.2.2.2.2).2
    have hs12 := (wok_sz HD.out.2.2.2.2.1).2
    have hp := affOk_parts HD.out.2.2.2.1
    have hle := hasT_size HD.out.2.1
    obtain ⟨hp1, hp2, -, -⟩ := hp
    dsimp only at hp1 hp2
    cases fr with
    | true =>
      have hbe : begT m ad = true := HD.out.2.1
      have hex : ((m.extract 0 ad.size).toList == ad.toList) = true := by unfold begT at hbe; simp only [Bool.and_eq_true] at hbe; exact hbe.2
      clear hbe
      go_wp2_with fail
      go_quiet (fail)
      go_wp2_with fail
      go_ret
      exact ⟨ret_bool (by simp; omega), below_drewN hb6' _⟩
    | false =>
      have hbe : endT m ad = true := HD.out.2.1
      have hex : ((m.extract (m.size - ad.size) m.size).toList == ad.toList) = true := by unfold endT at hbe; simp only [Bool.and_eq_true] at hbe; exact hbe.2
      clear hbe
      go_wp2_with fail
      go_quiet (fail)
      go_wp2_with fail
      go_ret
      exact ⟨ret_bool (by simp; omega), below_drewN hb6' _⟩
end Go.Proofs.Ytaldbaapfdpbgaa
