/-
  An affix at its side: what sideOf, has and swap do; impl.AffixOk.
-/
import Derived.Test.YtkepmjebnkcbgaaGreatDoorGW69
import Derived.Deep.RegionWith
namespace Go.Proofs.YtkepmjebnkcbgaaGreatDoor
open Go.RowKit
set_option linter.unusedVariables false
/-- An affix at its side, as an interface's value. -/
def Aff.side (a : Aff) : Value := if a.front then .iface 144 (.agg a.cells) else .iface 143 (.agg a.cells)
set_option maxHeartbeats 1000000 in
theorem sideOf_any (a : Aff) (w : World) :
    Calls Tryz.prog 119 #[.agg a.cells] w fun e w' => e = .returned a.side ∧ Below w.heap.size w w' := by
  obtain ⟨f, fr, st, ad, wh⟩ := a
  unfold Aff.side Aff.cells
  cases fr with
  | true =>
    go_enter Tryz.func119, Tryz.ntmps119
    go_wp2
    go_ret
    exact ⟨rfl, (Below.refl _ _).alloc (Nat.le_refl _) _⟩
  | false =>
    go_enter Tryz.func119, Tryz.ntmps119
    go_wp2
    go_ret
    exact ⟨rfl, (Below.refl _ _).alloc (Nat.le_refl _) _⟩
theorem sideBeg_any (f st ad wh : ByteArray) (w : World) :
    Calls Tryz.prog 119 #[.agg #[.string f, .bool true, .string st, .string ad, .string wh]] w fun e w' => e = .returned (.iface 144 (.agg #[.string f, .bool true, .string st, .string ad, .string wh])) ∧ Below w.heap.size w w' :=
  sideOf_any ⟨f, true, st, ad, wh⟩ w
theorem sideEnd_any (f st ad wh : ByteArray) (w : World) :
    Calls Tryz.prog 119 #[.agg #[.string f, .bool false, .string st, .string ad, .string wh]] w fun e w' => e = .returned (.iface 143 (.agg #[.string f, .bool false, .string st, .string ad, .string wh])) ∧ Below w.heap.size w w' :=
  sideOf_any ⟨f, false, st, ad, wh⟩ w
set_option maxHeartbeats 1000000 in
theorem begHas_any (a : Aff) (s p : ByteArray) (w : World) (hs : s.size ≤ maxLen) (hp : p.size ≤ maxLen) :
    Calls Tryz.prog 184 #[.agg a.cells, .string s, .string p] w fun e w' => e = .returned (.bool (begT s p)) ∧ Below w.heap.size w w' := by
  obtain ⟨f, fr, st, ad, wh⟩ := a
  unfold Aff.cells
  go_enter Tryz.func184, Tryz.ntmps184
  go_wp2_with (go_at_call 186; refine (hasPrefix_any _ _ _ hs hp).mono ?_; rintro e w' ⟨rfl, rfl⟩)
  go_ret
  exact ⟨rfl, (Below.refl _ _).alloc (Nat.le_refl _) _⟩
set_option maxHeartbeats 1000000 in
theorem endHas_any (a : Aff) (s p : ByteArray) (w : World) (hs : s.size ≤ maxLen) (hp : p.size ≤ maxLen) :
    Calls Tryz.prog 180 #[.agg a.cells, .string s, .string p] w fun e w' => e = .returned (.bool (endT s p)) ∧ Below w.heap.size w w' := by
  obtain ⟨f, fr, st, ad, wh⟩ := a
  unfold Aff.cells
  go_enter Tryz.func180, Tryz.ntmps180
  go_wp2_with (go_at_call 182; refine (hasSuffix_any _ _ _ hs hp).mono ?_; rintro e w' ⟨rfl, rfl⟩)
  go_ret
  exact ⟨rfl, (Below.refl _ _).alloc (Nat.le_refl _) _⟩
theorem bcell {W w1 : World} (hb : Below W.heap.size W w1) : ∀ b o, b < W.heap.size → w1.cell? ⟨b, o, none⟩ = W.cell? ⟨b, o, none⟩ :=
  fun b o h => hb.cell (p := ⟨b, o, none⟩) h
/-- Which method has leads to. -/
theorem methBegHas (v : Value) (wx : World) : (method 300 144 v "loop.example/medlar/impl.has").run Tryz.prog wx = .ok (184, v) wx := by kernel_rfl
theorem methEndHas (v : Value) (wx : World) : (method 300 143 v "loop.example/medlar/impl.has").run Tryz.prog wx = .ok (180, v) wx := by kernel_rfl
theorem between_is {f : ByteArray} {lo hi : Int} {b : Bool} (hf : f.size ≤ maxLen) (h : inr lo hi f.data.toList = b) (wx : World) :
    Calls Tryz.prog 132 #[.string f, .int .u8 lo, .int .u8 hi] wx fun e w' => e = .returned (.bool b) ∧ w' = wx := by
  have := between_any f lo hi wx hf
  rwa [h] at this
theorem partOk_is {s : ByteArray} {b : Bool} (hs : s.size ≤ maxLen) (h : partT s = b) (wx : World) :
    Calls Tryz.prog 133 #[.string s] wx fun e w' => e = .returned (.bool b) ∧ w' = wx := by
  have := partOk_any s wx hs
  rwa [h] at this
set_option maxRecDepth 100000 in
set_option maxHeartbeats 2000000 in
theorem implAffixOk_any (a : Aff) (w : World) (h : a.fits) :
    Calls Tryz.prog 108 #[.agg a.cells] w fun e w' => e = .returned (.bool (affOk a)) ∧ Below w.heap.size w w' := by
  obtain ⟨f, fr, st, ad, wh⟩ := a
  obtain ⟨hf, hst, had, hwh⟩ := h
  simp only at hf hst had hwh
  unfold Aff.cells
  cases h1 : ((f.size : Int) == 1) with
  | false =>
    have e1 : ¬ (f.size : Int) = 1 := by simpa using h1
    have HA : Hid (affOk ⟨f, fr, st, ad, wh⟩ = false) := show affOk ⟨f, fr, st, ad, wh⟩ = false by simp [affOk, flagT, e1]
    go_enter Tryz.func108, Tryz.ntmps108
    go_wp2
    go_quiet (fail)
    go_wp2
    go_ret
    rw [HA.out]
    exact ⟨rfl, below_drewN ((Below.refl _ _).alloc (Nat.le_refl _) _) _⟩
  | true =>
    have e1 : (f.size : Int) = 1 := by simpa using h1
    have HE : Hid ((f.size : Int) = 1) := e1
    clear e1
    cases h2 : inr 65 90 f.data.toList with
    | false =>
      have HA : Hid (affOk ⟨f, fr, st, ad, wh⟩ = false) := show affOk ⟨f, fr, st, ad, wh⟩ = false by simp [affOk, flagT, h2]
      go_enter Tryz.func108, Tryz.ntmps108
      go_wp2
      go_quiet ((first | (go_at_call 132; refine (between_is hf h2 _).mono ?_; rintro e w'' ⟨rfl, rfl⟩; exact ⟨rfl, _, rfl⟩)))
      go_wp2
      go_ret
      rw [HA.out]
      exact ⟨rfl, below_drewN ((Below.refl _ _).alloc (Nat.le_refl _) _) _⟩
    | true =>
      have HF : Hid (flagT f = true) := show flagT f = true by simp [flagT, h2, HE.out]
      cases h3 : partT st with
      | false =>
        have HA : Hid (affOk ⟨f, fr, st, ad, wh⟩ = false) := show affOk ⟨f, fr, st, ad, wh⟩ = false by simp [affOk, h3]
        go_enter Tryz.func108, Tryz.ntmps108
        go_wp2
        go_quiet ((first | (go_at_call 132; refine (between_is hf h2 _).mono ?_; rintro e w'' ⟨rfl, rfl⟩; exact ⟨rfl, _, rfl⟩) | (go_at_call_of 133 (Value.string st); refine (partOk_is hst h3 _).mono ?_; rintro e w'' ⟨rfl, rfl⟩; exact ⟨rfl, _, rfl⟩)))
        go_wp2
        go_ret
        rw [HA.out]
        exact ⟨rfl, below_drewN ((Below.refl _ _).alloc (Nat.le_refl _) _) _⟩
      | true =>
        cases h4 : partT ad with
        | false =>
          have HA : Hid (affOk ⟨f, fr, st, ad, wh⟩ = false) := show affOk ⟨f, fr, st, ad, wh⟩ = false by simp [affOk, h4]
          go_enter Tryz.func108, Tryz.ntmps108
          go_wp2
          go_quiet ((first | (go_at_call 132; refine (between_is hf h2 _).mono ?_; rintro e w'' ⟨rfl, rfl⟩; exact ⟨rfl, _, rfl⟩) | (go_at_call_of 133 (Value.string st); refine (partOk_is hst h3 _).mono ?_; rintro e w'' ⟨rfl, rfl⟩; exact ⟨rfl, _, rfl⟩) | (go_at_call_of 133 (Value.string ad); refine (partOk_is had h4 _).mono ?_; rintro e w'' ⟨rfl, rfl⟩; exact ⟨rfl, _, rfl⟩)))
          go_wp2
          go_ret
          rw [HA.out]
          exact ⟨rfl, below_drewN ((Below.refl _ _).alloc (Nat.le_refl _) _) _⟩
        | true =>
          cases h5 : partT wh with
          | false =>
            have HA : Hid (affOk ⟨f, fr, st, ad, wh⟩ = false) := show affOk ⟨f, fr, st, ad, wh⟩ = false by simp [affOk, h5]
            go_enter Tryz.func108, Tryz.ntmps108
            go_wp2
            go_quiet ((first | (go_at_call 132; refine (between_is hf h2 _).mono ?_; rintro e w'' ⟨rfl, rfl⟩; exact ⟨rfl, _, rfl⟩) | (go_at_call_of 133 (Value.string st); refine (partOk_is hst h3 _).mono ?_; rintro e w'' ⟨rfl, rfl⟩; exact ⟨rfl, _, rfl⟩) | (go_at_call_of 133 (Value.string ad); refine (partOk_is had h4 _).mono ?_; rintro e w'' ⟨rfl, rfl⟩; exact ⟨rfl, _, rfl⟩) | (go_at_call_of 133 (Value.string wh); refine (partOk_is hwh h5 _).mono ?_; rintro e w'' ⟨rfl, rfl⟩; exact ⟨rfl, _, rfl⟩)))
            go_wp2
            go_ret
            rw [HA.out]
            exact ⟨rfl, below_drewN ((Below.refl _ _).alloc (Nat.le_refl _) _) _⟩
          | true =>
            cases fr with
            | true =>
              have HA : Hid (affOk ⟨f, true, st, ad, wh⟩ = begT wh st) := show affOk ⟨f, true, st, ad, wh⟩ = begT wh st by simp [affOk, HF.out, h3, h4, h5]
              have hmb := methBegHas
              have hme := methEndHas
              go_enter Tryz.func108, Tryz.ntmps108
              go_wp2
              go_region_held3 (fun w' => w'.cell? ⟨w.heap.size, 0, none⟩ = some (.string f) ∧ w'.cell? ⟨w.heap.size, 1, none⟩ = some (.bool true) ∧ w'.cell? ⟨w.heap.size, 2, none⟩ = some (.string st) ∧ w'.cell? ⟨w.heap.size, 3, none⟩ = some (.string ad) ∧ w'.cell? ⟨w.heap.size, 4, none⟩ = some (.string wh)) (go_keep)
                (first | (go_at_call 132; refine (between_is hf h2 _).mono ?_; rintro e w'' ⟨rfl, rfl⟩) | (go_at_call_of 133 (Value.string st); refine (partOk_is hst h3 _).mono ?_; rintro e w'' ⟨rfl, rfl⟩) | (go_at_call_of 133 (Value.string ad); refine (partOk_is had h4 _).mono ?_; rintro e w'' ⟨rfl, rfl⟩) | (go_at_call_of 133 (Value.string wh); refine (partOk_is hwh h5 _).mono ?_; rintro e w'' ⟨rfl, rfl⟩) | (go_at_call 119; refine (sideBeg_any f st ad wh _).mono ?_; rintro e w1 ⟨rfl, hb1⟩; have hc1 := bcell hb1; have hz1 : w.heap.size < w1.heap.size := (by have := hb1.size; simp at this; omega)) | (go_at_call 184; refine (begHas_any ⟨f, true, st, ad, wh⟩ wh st _ hwh hst).mono ?_; rintro e w2 ⟨rfl, hb2⟩; have hc2 := bcell hb2))
              go_wp2
              go_ret
              rw [HA.out]
              exact ⟨rfl, (((Below.refl _ _).alloc (Nat.le_refl _) _).drew.trans (hb1.mono (by simp))).trans (hb2.mono (by omega))⟩
            | false =>
              have HA : Hid (affOk ⟨f, false, st, ad, wh⟩ = endT wh st) := show affOk ⟨f, false, st, ad, wh⟩ = endT wh st by simp [affOk, HF.out, h3, h4, h5]
              have hmb := methBegHas
              have hme := methEndHas
              go_enter Tryz.func108, Tryz.ntmps108
              go_wp2
              go_region_held3 (fun w' => w'.cell? ⟨w.heap.size, 0, none⟩ = some (.string f) ∧ w'.cell? ⟨w.heap.size, 1, none⟩ = some (.bool false) ∧ w'.cell? ⟨w.heap.size, 2, none⟩ = some (.string st) ∧ w'.cell? ⟨w.heap.size, 3, none⟩ = some (.string ad) ∧ w'.cell? ⟨w.heap.size, 4, none⟩ = some (.string wh)) (go_keep)
                (first | (go_at_call 132; refine (between_is hf h2 _).mono ?_; rintro e w'' ⟨rfl, rfl⟩) | (go_at_call_of 133 (Value.string st); refine (partOk_is hst h3 _).mono ?_; rintro e w'' ⟨rfl, rfl⟩) | (go_at_call_of 133 (Value.string ad); refine (partOk_is had h4 _).mono ?_; rintro e w'' ⟨rfl, rfl⟩) | (go_at_call_of 133 (Value.string wh); refine (partOk_is hwh h5 _).mono ?_; rintro e w'' ⟨rfl, rfl⟩) | (go_at_call 119; refine (sideEnd_any f st ad wh _).mono ?_; rintro e w1 ⟨rfl, hb1⟩; have hc1 := bcell hb1; have hz1 : w.heap.size < w1.heap.size := (by have := hb1.size; simp at this; omega)) | (go_at_call 180; refine (endHas_any ⟨f, false, st, ad, wh⟩ wh st _ hwh hst).mono ?_; rintro e w2 ⟨rfl, hb2⟩; have hc2 := bcell hb2))
              go_wp2
              go_ret
              rw [HA.out]
              exact ⟨rfl, (((Below.refl _ _).alloc (Nat.le_refl _) _).drew.trans (hb1.mono (by simp))).trans (hb2.mono (by omega))⟩
end Go.Proofs.YtkepmjebnkcbgaaGreatDoor
/-
  Parts at a side of a text: what an affix that is ok puts there, and takes back. No program in it.
-/
namespace Go.Proofs.YtkepmjebnkcbgaaGreatDoor
set_option linter.unusedVariables false
/-- A part stands at an affix's side of a text; one part in another one's place there. -/
def hasT (fr : Bool) (s p : ByteArray) : Bool := if fr then begT s p else endT s p
theorem affOk_parts {a : Aff} (h : affOk a = true) : a.strip.size ≤ 4 ∧ a.add.size ≤ 4 ∧ a.wh.size ≤ 4 ∧ hasT a.front a.wh a.strip = true := by
  unfold affOk partT at h
  simp only [Bool.and_eq_true, decide_eq_true_eq] at h
  obtain ⟨-, ⟨-, h2⟩, ⟨-, h3⟩, ⟨-, h4⟩, h5⟩ := h
  exact ⟨by omega, by omega, by omega, h5⟩
theorem wok_sz {s : ByteArray} (h : wok s = true) : 0 < s.size ∧ s.size ≤ 12 := by
  unfold wok at h
  simp only [Bool.and_eq_true, decide_eq_true_eq] at h
  omega
end Go.Proofs.YtkepmjebnkcbgaaGreatDoor
/-
  An affix handed over: szAffix, toAffix; the law FnExactAffixOk.
-/
namespace Go.Proofs.YtkepmjebnkcbgaaGreatDoor
open Go.RowKit
set_option linter.unusedVariables false
/-- How much of a bound is left behind an affix's texts; -1 where they are more. -/
def szA (a : Aff) (left : Int) : Int :=
  if left - a.flag.size < 0 then -1 else if left - a.flag.size - a.strip.size < 0 then -1 else if left - a.flag.size - a.strip.size - a.add.size < 0 then -1
  else if left - a.flag.size - a.strip.size - a.add.size - a.wh.size < 0 then -1 else left - a.flag.size - a.strip.size - a.add.size - a.wh.size
set_option maxHeartbeats 1000000 in
theorem szAffix_any (a : Aff) (left : Int) (w : World) (h : a.fits) (h0 : 0 ≤ left) (h1 : left ≤ 1048576) :
    Calls Tryz.prog 59 #[.agg a.cells, .int .i64 left] w fun e w' => e = .returned (.int .i64 (szA a left)) ∧ Below w.heap.size w w' := by
  obtain ⟨f, fr, st, ad, wh⟩ := a
  obtain ⟨hf, hst, had, hwh⟩ := h
  simp only at hf hst had hwh
  unfold maxLen at hf hst had hwh
  unfold Aff.cells
  by_cases c1 : left - f.size < 0
  · have HS : Hid (szA ⟨f, fr, st, ad, wh⟩ left = -1) := show szA ⟨f, fr, st, ad, wh⟩ left = -1 by unfold szA; rw [if_pos c1]
    go_enter Tryz.func59, Tryz.ntmps59
    go_wp2
    go_ret
    rw [HS.out]
    exact ⟨rfl, (Below.refl _ _).alloc (Nat.le_refl _) _⟩
  by_cases c2 : left - f.size - st.size < 0
  · have HS : Hid (szA ⟨f, fr, st, ad, wh⟩ left = -1) := show szA ⟨f, fr, st, ad, wh⟩ left = -1 by unfold szA; rw [if_neg c1, if_pos c2]
    go_enter Tryz.func59, Tryz.ntmps59
    go_wp2
    go_ret
    rw [HS.out]
    exact ⟨rfl, (Below.refl _ _).alloc (Nat.le_refl _) _⟩
  by_cases c3 : left - f.size - st.size - ad.size < 0
  · have HS : Hid (szA ⟨f, fr, st, ad, wh⟩ left = -1) := show szA ⟨f, fr, st, ad, wh⟩ left = -1 by unfold szA; rw [if_neg c1, if_neg c2, if_pos c3]
    go_enter Tryz.func59, Tryz.ntmps59
    go_wp2
    go_ret
    rw [HS.out]
    exact ⟨rfl, (Below.refl _ _).alloc (Nat.le_refl _) _⟩
  by_cases c4 : left - f.size - st.size - ad.size - wh.size < 0
  · have HS : Hid (szA ⟨f, fr, st, ad, wh⟩ left = -1) := show szA ⟨f, fr, st, ad, wh⟩ left = -1 by unfold szA; rw [if_neg c1, if_neg c2, if_neg c3, if_pos c4]
    go_enter Tryz.func59, Tryz.ntmps59
    go_wp2
    go_ret
    rw [HS.out]
    exact ⟨rfl, (Below.refl _ _).alloc (Nat.le_refl _) _⟩
  · have HS : Hid (szA ⟨f, fr, st, ad, wh⟩ left = left - f.size - st.size - ad.size - wh.size) := show szA ⟨f, fr, st, ad, wh⟩ left = left - f.size - st.size - ad.size - wh.size by unfold szA; rw [if_neg c1, if_neg c2, if_neg c3, if_neg c4]
    go_enter Tryz.func59, Tryz.ntmps59
    go_wp2
    go_ret
    rw [HS.out]
    exact ⟨rfl, (Below.refl _ _).alloc (Nat.le_refl _) _⟩
set_option maxHeartbeats 1000000 in
theorem toAffix_any (a : Aff) (w : World) :
    Calls Tryz.prog 61 #[.agg a.cells] w fun e w' => e = .returned (.agg a.cells) ∧ Below w.heap.size w w' := by
  obtain ⟨f, fr, st, ad, wh⟩ := a
  unfold Aff.cells
  go_enter Tryz.func61, Tryz.ntmps61
  go_wp2
  refine bodyPost_ret (v := .agg #[.string f, .bool fr, .string st, .string ad, .string wh]) (by simp [results, Tryz.results61, go_sem]) rfl ⟨rfl, ?_⟩
  exact (((Below.refl _ _).alloc (Nat.le_refl _) _).alloc (by simp) _).alloc (by simp <;> omega) _
end Go.Proofs.YtkepmjebnkcbgaaGreatDoor
