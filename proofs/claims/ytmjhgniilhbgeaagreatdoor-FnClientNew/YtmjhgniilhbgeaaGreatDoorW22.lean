/-
  An affix at its side: what sideOf, has and swap do; impl.AffixOk.
-/
import Derived.Test.YtmjhgniilhbgeaaGreatDoorW21
import Derived.Deep.RegionWith
namespace Go.Proofs.YtmjhgniilhbgeaaGreatDoor
open Go.RowKit
set_option linter.unusedVariables false
/-- An affix at its side, as an interface's value. -/
def Aff.side (a : Aff) : Value := if a.front then .iface 152 (.agg a.cells) else .iface 151 (.agg a.cells)
set_option maxHeartbeats 1000000 in
theorem sideOf_any (a : Aff) (w : World) :
    Calls Tryz.prog 85 #[.agg a.cells] w fun e w' => e = .returned a.side ∧ Below w.heap.size w w' := by
  obtain ⟨f, fr, st, ad, wh⟩ := a
  unfold Aff.side Aff.cells
  cases fr with
  | true =>
    go_enter Tryz.func85, Tryz.ntmps85
    go_wp2
    go_ret
    exact ⟨rfl, (Below.refl _ _).alloc (Nat.le_refl _) _⟩
  | false =>
    go_enter Tryz.func85, Tryz.ntmps85
    go_wp2
    go_ret
    exact ⟨rfl, (Below.refl _ _).alloc (Nat.le_refl _) _⟩
theorem sideBeg_any (f st ad wh : ByteArray) (w : World) :
    Calls Tryz.prog 85 #[.agg #[.string f, .bool true, .string st, .string ad, .string wh]] w fun e w' => e = .returned (.iface 152 (.agg #[.string f, .bool true, .string st, .string ad, .string wh])) ∧ Below w.heap.size w w' :=
  sideOf_any ⟨f, true, st, ad, wh⟩ w
theorem sideEnd_any (f st ad wh : ByteArray) (w : World) :
    Calls Tryz.prog 85 #[.agg #[.string f, .bool false, .string st, .string ad, .string wh]] w fun e w' => e = .returned (.iface 151 (.agg #[.string f, .bool false, .string st, .string ad, .string wh])) ∧ Below w.heap.size w w' :=
  sideOf_any ⟨f, false, st, ad, wh⟩ w
set_option maxHeartbeats 1000000 in
theorem begHas_any (a : Aff) (s p : ByteArray) (w : World) (hs : s.size ≤ maxLen) (hp : p.size ≤ maxLen) :
    Calls Tryz.prog 188 #[.agg a.cells, .string s, .string p] w fun e w' => e = .returned (.bool (begT s p)) ∧ Below w.heap.size w w' := by
  obtain ⟨f, fr, st, ad, wh⟩ := a
  unfold Aff.cells
  go_enter Tryz.func188, Tryz.ntmps188
  go_wp2_with (go_at_call 27; refine (hasPrefix_any _ _ _ hs hp).mono ?_; rintro e w' ⟨rfl, rfl⟩)
  go_ret
  exact ⟨rfl, (Below.refl _ _).alloc (Nat.le_refl _) _⟩
set_option maxHeartbeats 1000000 in
theorem endHas_any (a : Aff) (s p : ByteArray) (w : World) (hs : s.size ≤ maxLen) (hp : p.size ≤ maxLen) :
    Calls Tryz.prog 184 #[.agg a.cells, .string s, .string p] w fun e w' => e = .returned (.bool (endT s p)) ∧ Below w.heap.size w w' := by
  obtain ⟨f, fr, st, ad, wh⟩ := a
  unfold Aff.cells
  go_enter Tryz.func184, Tryz.ntmps184
  go_wp2_with (go_at_call 186; refine (hasSuffix_any _ _ _ hs hp).mono ?_; rintro e w' ⟨rfl, rfl⟩)
  go_ret
  exact ⟨rfl, (Below.refl _ _).alloc (Nat.le_refl _) _⟩
theorem bcell {W w1 : World} (hb : Below W.heap.size W w1) : ∀ b o, b < W.heap.size → w1.cell? ⟨b, o, none⟩ = W.cell? ⟨b, o, none⟩ :=
  fun b o h => hb.cell (p := ⟨b, o, none⟩) h
/-- Which method has leads to. -/
theorem methBegHas (v : Value) (wx : World) : (method 365 152 v "loop.example/medlar/impl.has").run Tryz.prog wx = .ok (188, v) wx := by kernel_rfl
theorem methEndHas (v : Value) (wx : World) : (method 365 151 v "loop.example/medlar/impl.has").run Tryz.prog wx = .ok (184, v) wx := by kernel_rfl
theorem between_is {f : ByteArray} {lo hi : Int} {b : Bool} (hf : f.size ≤ maxLen) (h : inr lo hi f.data.toList = b) (wx : World) :
    Calls Tryz.prog 104 #[.string f, .int .u8 lo, .int .u8 hi] wx fun e w' => e = .returned (.bool b) ∧ w' = wx := by
  have := between_any f lo hi wx hf
  rwa [h] at this
theorem partOk_is {s : ByteArray} {b : Bool} (hs : s.size ≤ maxLen) (h : partT s = b) (wx : World) :
    Calls Tryz.prog 105 #[.string s] wx fun e w' => e = .returned (.bool b) ∧ w' = wx := by
  have := partOk_any s wx hs
  rwa [h] at this
set_option maxRecDepth 100000 in
set_option maxHeartbeats 2000000 in
theorem implAffixOk_any (a : Aff) (w : World) (h : a.fits) :
    Calls Tryz.prog 67 #[.agg a.cells] w fun e w' => e = .returned (.bool (affOk a)) ∧ Below w.heap.size w w' := by
  obtain ⟨f, fr, st, ad, wh⟩ := a
  obtain ⟨hf, hst, had, hwh⟩ := h
  simp only at hf hst had hwh
  unfold Aff.cells
  cases h1 : ((f.size : Int) == 1) with
  | false =>
    have e1 : ¬ (f.size : Int) = 1 := by simpa using h1
    have HA : Hid (affOk ⟨f, fr, st, ad, wh⟩ = false) := show affOk ⟨f, fr, st, ad, wh⟩ = false by simp [affOk, flagT, e1]
    go_enter Tryz.func67, Tryz.ntmps67
    go_wp2
    go_quiet (fail)
    go_wp2
    go_ret
    rw [HA.out]
    exact ⟨rfl, below_drewN ((Below.refl _ _).alloc (Nat.le_refl _) _) _⟩
  | true =>
    have e1 : (f.size : Int) = 1 := by simpa using h1
    have HE : Hid ((f.size : Int) = 1) := e1
    clear e1
    cases h2 : inr 65 90 f.data.toList with
    | false =>
      have HA : Hid (affOk ⟨f, fr, st, ad, wh⟩ = false) := show affOk ⟨f, fr, st, ad, wh⟩ = false by simp [affOk, flagT, h2]
      go_enter Tryz.func67, Tryz.ntmps67
      go_wp2
      go_quiet ((first | (go_at_call 104; refine (between_is hf h2 _).mono ?_; rintro e w'' ⟨rfl, rfl⟩; exact ⟨rfl, _, rfl⟩)))
      go_wp2
      go_ret
      rw [HA.out]
      exact ⟨rfl, below_drewN ((Below.refl _ _).alloc (Nat.le_refl _) _) _⟩
    | true =>
      have HF : Hid (flagT f = true) := show flagT f = true by simp [flagT, h2, HE.out]
      cases h3 : partT st with
      | false =>
        have HA : Hid (affOk ⟨f, fr, st, ad, wh⟩ = false) := show affOk ⟨f, fr, st, ad, wh⟩ = false by simp [affOk, h3]
        go_enter Tryz.func67, Tryz.ntmps67
        go_wp2
        go_quiet ((first | (go_at_call 104; refine (between_is hf h2 _).mono ?_; rintro e w'' ⟨rfl, rfl⟩; exact ⟨rfl, _, rfl⟩) | (go_at_call_of 105 (Value.string st); refine (partOk_is hst h3 _).mono ?_; rintro e w'' ⟨rfl, rfl⟩; exact ⟨rfl, _, rfl⟩)))
        go_wp2
        go_ret
        rw [HA.out]
        exact ⟨rfl, below_drewN ((Below.refl _ _).alloc (Nat.le_refl _) _) _⟩
      | true =>
        cases h4 : partT ad with
        | false =>
          have HA : Hid (affOk ⟨f, fr, st, ad, wh⟩ = false) := show affOk ⟨f, fr, st, ad, wh⟩ = false by simp [affOk, h4]
          go_enter Tryz.func67, Tryz.ntmps67
          go_wp2
          go_quiet ((first | (go_at_call 104; refine (between_is hf h2 _).mono ?_; rintro e w'' ⟨rfl, rfl⟩; exact ⟨rfl, _, rfl⟩) | (go_at_call_of 105 (Value.string st); refine (partOk_is hst h3 _).mono ?_; rintro e w'' ⟨rfl, rfl⟩; exact ⟨rfl, _, rfl⟩) | (go_at_call_of 105 (Value.string ad); refine (partOk_is had h4 _).mono ?_; rintro e w'' ⟨rfl, rfl⟩; exact ⟨rfl, _, rfl⟩)))
          go_wp2
          go_ret
          rw [HA.out]
          exact ⟨rfl, below_drewN ((Below.refl _ _).alloc (Nat.le_refl _) _) _⟩
        | true =>
          cases h5 : partT wh with
          | false =>
            have HA : Hid (affOk ⟨f, fr, st, ad, wh⟩ = false) := show affOk ⟨f, fr, st, ad, wh⟩ = false by simp [affOk, h5]
            go_enter Tryz.func67, Tryz.ntmps67
            go_wp2
            go_quiet ((first | (go_at_call 104; refine (between_is hf h2 _).mono ?_; rintro e w'' ⟨rfl, rfl⟩; exact ⟨rfl, _, rfl⟩) | (go_at_call_of 105 (Value.string st); refine (partOk_is hst h3 _).mono ?_; rintro e w'' ⟨rfl, rfl⟩; exact ⟨rfl, _, rfl⟩) | (go_at_call_of 105 (Value.string ad); refine (partOk_is had h4 _).mono ?_; rintro e w'' ⟨rfl, rfl⟩; exact ⟨rfl, _, rfl⟩) | (go_at_call_of 105 (Value.string wh); refine (partOk_is hwh h5 _).mono ?_; rintro e w'' ⟨rfl, rfl⟩; exact ⟨rfl, _, rfl⟩)))
            go_wp2
            go_ret
            rw [HA.out]
            exact ⟨rfl, below_drewN ((Below.refl _ _).alloc (Nat.le_refl _) _) _⟩
          | true =>
            cases fr with
            | true =>
              have HA : Hid (affOk ⟨f, true, st, ad, wh⟩ = begT wh st) := show affOk ⟨f, true, st, ad, wh⟩ = begT wh st by simp [affOk, HF.out, h3, h4, h5]
              have hmb := methBegHas
              have hme := methEndHas
              go_enter Tryz.func67, Tryz.ntmps67
              go_wp2
              go_region_held3 (fun w' => w'.cell? ⟨w.heap.size, 0, none⟩ = some (.string f) ∧ w'.cell? ⟨w.heap.size, 1, none⟩ = some (.bool true) ∧ w'.cell? ⟨w.heap.size, 2, none⟩ = some (.string st) ∧ w'.cell? ⟨w.heap.size, 3, none⟩ = some (.string ad) ∧ w'.cell? ⟨w.heap.size, 4, none⟩ = some (.string wh)) (go_keep)
                (first | (go_at_call 104; refine (between_is hf h2 _).mono ?_; rintro e w'' ⟨rfl, rfl⟩) | (go_at_call_of 105 (Value.string st); refine (partOk_is hst h3 _).mono ?_; rintro e w'' ⟨rfl, rfl⟩) | (go_at_call_of 105 (Value.string ad); refine (partOk_is had h4 _).mono ?_; rintro e w'' ⟨rfl, rfl⟩) | (go_at_call_of 105 (Value.string wh); refine (partOk_is hwh h5 _).mono ?_; rintro e w'' ⟨rfl, rfl⟩) | (go_at_call 85; refine (sideBeg_any f st ad wh _).mono ?_; rintro e w1 ⟨rfl, hb1⟩; have hc1 := bcell hb1; have hz1 : w.heap.size < w1.heap.size := (by have := hb1.size; simp at this; omega)) | (go_at_call 188; refine (begHas_any ⟨f, true, st, ad, wh⟩ wh st _ hwh hst).mono ?_; rintro e w2 ⟨rfl, hb2⟩; have hc2 := bcell hb2))
              go_wp2
              go_ret
              rw [HA.out]
              exact ⟨rfl, (((Below.refl _ _).alloc (Nat.le_refl _) _).drew.trans (hb1.mono (by simp))).trans (hb2.mono (by omega))⟩
            | false =>
              have HA : Hid (affOk ⟨f, false, st, ad, wh⟩ = endT wh st) := show affOk ⟨f, false, st, ad, wh⟩ = endT wh st by simp [affOk, HF.out, h3, h4, h5]
              have hmb := methBegHas
              have hme := methEndHas
              go_enter Tryz.func67, Tryz.ntmps67
              go_wp2
              go_region_held3 (fun w' => w'.cell? ⟨w.heap.size, 0, none⟩ = some (.string f) ∧ w'.cell? ⟨w.heap.size, 1, none⟩ = some (.bool false) ∧ w'.cell? ⟨w.heap.size, 2, none⟩ = some (.string st) ∧ w'.cell? ⟨w.heap.size, 3, none⟩ = some (.string ad) ∧ w'.cell? ⟨w.heap.size, 4, none⟩ = some (.string wh)) (go_keep)
                (first | (go_at_call 104; refine (between_is hf h2 _).mono ?_; rintro e w'' ⟨rfl, rfl⟩) | (go_at_call_of 105 (Value.string st); refine (partOk_is hst h3 _).mono ?_; rintro e w'' ⟨rfl, rfl⟩) | (go_at_call_of 105 (Value.string ad); refine (partOk_is had h4 _).mono ?_; rintro e w'' ⟨rfl, rfl⟩) | (go_at_call_of 105 (Value.string wh); refine (partOk_is hwh h5 _).mono ?_; rintro e w'' ⟨rfl, rfl⟩) | (go_at_call 85; refine (sideEnd_any f st ad wh _).mono ?_; rintro e w1 ⟨rfl, hb1⟩; have hc1 := bcell hb1; have hz1 : w.heap.size < w1.heap.size := (by have := hb1.size; simp at this; omega)) | (go_at_call 184; refine (endHas_any ⟨f, false, st, ad, wh⟩ wh st _ hwh hst).mono ?_; rintro e w2 ⟨rfl, hb2⟩; have hc2 := bcell hb2))
              go_wp2
              go_ret
              rw [HA.out]
              exact ⟨rfl, (((Below.refl _ _).alloc (Nat.le_refl _) _).drew.trans (hb1.mono (by simp))).trans (hb2.mono (by omega))⟩
end Go.Proofs.YtmjhgniilhbgeaaGreatDoor
