/-
  An affix at its side: what sideOf, has and swap do; impl.AffixOk.
-/
import Derived.Test.YthedglgljehmgaaGreatDoorGW69
import Derived.Deep.RegionWith
namespace Go.Proofs.YthedglgljehmgaaGreatDoor
open Go.RowKit
set_option linter.unusedVariables false
/-- An affix at its side, as an interface's value. -/
def Aff.side (a : Aff) : Value := if a.front then .iface 120 (.agg a.cells) else .iface 117 (.agg a.cells)
set_option maxHeartbeats 1000000 in
theorem sideOf_any (a : Aff) (w : World) :
    Calls Tryz.prog 88 #[.agg a.cells] w fun e w' => e = .returned a.side ∧ Below w.heap.size w w' := by
  obtain ⟨f, fr, st, ad, wh⟩ := a
  unfold Aff.side Aff.cells
  cases fr with
  | true =>
    go_enter Tryz.func88, Tryz.ntmps88
    go_wp2
    go_ret
    exact ⟨rfl, (Below.refl _ _).alloc (Nat.le_refl _) _⟩
  | false =>
    go_enter Tryz.func88, Tryz.ntmps88
    go_wp2
    go_ret
    exact ⟨rfl, (Below.refl _ _).alloc (Nat.le_refl _) _⟩
theorem sideBeg_any (f st ad wh : ByteArray) (w : World) :
    Calls Tryz.prog 88 #[.agg #[.string f, .bool true, .string st, .string ad, .string wh]] w fun e w' => e = .returned (.iface 120 (.agg #[.string f, .bool true, .string st, .string ad, .string wh])) ∧ Below w.heap.size w w' :=
  sideOf_any ⟨f, true, st, ad, wh⟩ w
theorem sideEnd_any (f st ad wh : ByteArray) (w : World) :
    Calls Tryz.prog 88 #[.agg #[.string f, .bool false, .string st, .string ad, .string wh]] w fun e w' => e = .returned (.iface 117 (.agg #[.string f, .bool false, .string st, .string ad, .string wh])) ∧ Below w.heap.size w w' :=
  sideOf_any ⟨f, false, st, ad, wh⟩ w
set_option maxHeartbeats 1000000 in
theorem begHas_any (a : Aff) (s p : ByteArray) (w : World) (hs : s.size ≤ maxLen) (hp : p.size ≤ maxLen) :
    Calls Tryz.prog 156 #[.agg a.cells, .string s, .string p] w fun e w' => e = .returned (.bool (begT s p)) ∧ Below w.heap.size w w' := by
  obtain ⟨f, fr, st, ad, wh⟩ := a
  unfold Aff.cells
  go_enter Tryz.func156, Tryz.ntmps156
  go_wp2_with (go_at_call 158; refine (hasPrefix_any _ _ _ hs hp).mono ?_; rintro e w' ⟨rfl, rfl⟩)
  go_ret
  exact ⟨rfl, (Below.refl _ _).alloc (Nat.le_refl _) _⟩
set_option maxHeartbeats 1000000 in
theorem endHas_any (a : Aff) (s p : ByteArray) (w : World) (hs : s.size ≤ maxLen) (hp : p.size ≤ maxLen) :
    Calls Tryz.prog 152 #[.agg a.cells, .string s, .string p] w fun e w' => e = .returned (.bool (endT s p)) ∧ Below w.heap.size w w' := by
  obtain ⟨f, fr, st, ad, wh⟩ := a
  unfold Aff.cells
  go_enter Tryz.func152, Tryz.ntmps152
  go_wp2_with (go_at_call 154; refine (hasSuffix_any _ _ _ hs hp).mono ?_; rintro e w' ⟨rfl, rfl⟩)
  go_ret
  exact ⟨rfl, (Below.refl _ _).alloc (Nat.le_refl _) _⟩
theorem bcell {W w1 : World} (hb : Below W.heap.size W w1) : ∀ b o, b < W.heap.size → w1.cell? ⟨b, o, none⟩ = W.cell? ⟨b, o, none⟩ :=
  fun b o h => hb.cell (p := ⟨b, o, none⟩) h
/-- Which method has leads to. -/
theorem methBegHas (v : Value) (wx : World) : (method 297 120 v "loop.example/medlar/impl.has").run Tryz.prog wx = .ok (156, v) wx := by kernel_rfl
theorem methEndHas (v : Value) (wx : World) : (method 297 117 v "loop.example/medlar/impl.has").run Tryz.prog wx = .ok (152, v) wx := by kernel_rfl
theorem between_is {f : ByteArray} {lo hi : Int} {b : Bool} (hf : f.size ≤ maxLen) (h : inr lo hi f.data.toList = b) (wx : World) :
    Calls Tryz.prog 50 #[.string f, .int .u8 lo, .int .u8 hi] wx fun e w' => e = .returned (.bool b) ∧ w' = wx := by
  have := between_any f lo hi wx hf
  rwa [h] at this
theorem partOk_is {s : ByteArray} {b : Bool} (hs : s.size ≤ maxLen) (h : partT s = b) (wx : World) :
    Calls Tryz.prog 87 #[.string s] wx fun e w' => e = .returned (.bool b) ∧ w' = wx := by
  have := partOk_any s wx hs
  rwa [h] at this
set_option maxRecDepth 100000 in
set_option maxHeartbeats 2000000 in
theorem implAffixOk_any (a : Aff) (w : World) (h : a.fits) :
    Calls Tryz.prog 70 #[.agg a.cells] w fun e w' => e = .returned (.bool (affOk a)) ∧ Below w.heap.size w w' := by
  obtain ⟨f, fr, st, ad, wh⟩ := a
  obtain ⟨hf, hst, had, hwh⟩ := h
  simp only at hf hst had hwh
  unfold Aff.cells
  cases h1 : ((f.size : Int) == 1) with
  | false =>
    have e1 : ¬ (f.size : Int) = 1 := by simpa using h1
    have HA : Hid (affOk ⟨f, fr, st, ad, wh⟩ = false) := show affOk ⟨f, fr, st, ad, wh⟩ = false by simp [affOk, flagT, e1]
    go_enter Tryz.func70, Tryz.ntmps70
    go_wp2
    go_quiet (fail)
    go_wp2
    go_ret
    rw [HA.out]
    exact ⟨rfl, below_drewN ((Below.refl _ _).alloc (Nat.le_refl _) _) _⟩
  | true =>
    have e1 : (f.size : Int) = 1 := by simpa using h1
    have HE : Hid ((f.size : Int) = 1) := e1
    clear e1
    cases h2 : inr 65 90 f.data.toList with
    | false =>
      have HA : Hid (affOk ⟨f, fr, st, ad, wh⟩ = false) := show affOk ⟨f, fr, st, ad, wh⟩ = false by simp [affOk, flagT, h2]
      go_enter Tryz.func70, Tryz.ntmps70
      go_wp2
      go_quiet ((first | (go_at_call 50; refine (between_is hf h2 _).mono ?_; rintro e w'' ⟨rfl, rfl⟩; exact ⟨rfl, _, rfl⟩)))
      go_wp2
      go_ret
      rw [HA.out]
      exact ⟨rfl, below_drewN ((Below.refl _ _).alloc (Nat.le_refl _) _) _⟩
    | true =>
      have HF : Hid (flagT f = true) := show flagT f = true by simp [flagT, h2, HE.out]
      cases h3 : partT st with
      | false =>
        have HA : Hid (affOk ⟨f, fr, st, ad, wh⟩ = false) := show affOk ⟨f, fr, st, ad, wh⟩ = false by simp [affOk, h3]
        go_enter Tryz.func70, Tryz.ntmps70
        go_wp2
        go_quiet ((first | (go_at_call 50; refine (between_is hf h2 _).mono ?_; rintro e w'' ⟨rfl, rfl⟩; exact ⟨rfl, _, rfl⟩) | (go_at_call_of 87 (Value.string st); refine (partOk_is hst h3 _).mono ?_; rintro e w'' ⟨rfl, rfl⟩; exact ⟨rfl, _, rfl⟩)))
        go_wp2
        go_ret
        rw [HA.out]
        exact ⟨rfl, below_drewN ((Below.refl _ _).alloc (Nat.le_refl _) _) _⟩
      | true =>
        cases h4 : partT ad with
        | false =>
          have HA : Hid (affOk ⟨f, fr, st, ad, wh⟩ = false) := show affOk ⟨f, fr, st, ad, wh⟩ = false by simp [affOk, h4]
          go_enter Tryz.func70, Tryz.ntmps70
          go_wp2
          go_quiet ((first | (go_at_call 50; refine (between_is hf h2 _).mono ?_; rintro e w'' ⟨rfl, rfl⟩; exact ⟨rfl, _, rfl⟩) | (go_at_call_of 87 (Value.string st); refine (partOk_is hst h3 _).mono ?_; rintro e w'' ⟨rfl, rfl⟩; exact ⟨rfl, _, rfl⟩) | (go_at_call_of 87 (Value.string ad); refine (partOk_is had h4 _).mono ?_; rintro e w'' ⟨rfl, rfl⟩; exact ⟨rfl, _, rfl⟩)))
          go_wp2
          go_ret
          rw [HA.out]
          exact ⟨rfl, below_drewN ((Below.refl _ _).alloc (Nat.le_refl _) _) _⟩
        | true =>
          cases h5 : partT wh with
          | false =>
            have HA : Hid (affOk ⟨f, fr, st, ad, wh⟩ = false) := show affOk ⟨f, fr, st, ad, wh⟩ = false by simp [affOk, h5]
            go_enter Tryz.func70, Tryz.ntmps70
            go_wp2
            go_quiet ((first | (go_at_call 50; refine (between_is hf h2 _).mono ?_; rintro e w'' ⟨rfl, rfl⟩; exact ⟨rfl, _, rfl⟩) | (go_at_call_of 87 (Value.string st); refine (partOk_is hst h3 _).mono ?_; rintro e w'' ⟨rfl, rfl⟩; exact ⟨rfl, _, rfl⟩) | (go_at_call_of 87 (Value.string ad); refine (partOk_is had h4 _).mono ?_; rintro e w'' ⟨rfl, rfl⟩; exact ⟨rfl, _, rfl⟩) | (go_at_call_of 87 (Value.string wh); refine (partOk_is hwh h5 _).mono ?_; rintro e w'' ⟨rfl, rfl⟩; exact ⟨rfl, _, rfl⟩)))
            go_wp2
            go_ret
            rw [HA.out]
            exact ⟨rfl, below_drewN ((Below.refl _ _).alloc (Nat.le_refl _) _) _⟩
          | true =>
            cases fr with
            | true =>
              have HA : Hid (affOk ⟨f, true, st, ad, wh⟩ = begT wh st) := show affOk ⟨f, true, st, ad, wh⟩ = begT wh st by simp [affOk, HF.out, h3, h4, h5]
              have hmb := methBegHas
              have hme := methEndHas
              go_enter Tryz.func70, Tryz.ntmps70
              go_wp2
              go_region_held3 (fun w' => w'.cell? ⟨w.heap.size, 0, none⟩ = some (.string f) ∧ w'.cell? ⟨w.heap.size, 1, none⟩ = some (.bool true) ∧ w'.cell? ⟨w.heap.size, 2, none⟩ = some (.string st) ∧ w'.cell? ⟨w.heap.size, 3, none⟩ = some (.string ad) ∧ w'.cell? ⟨w.heap.size, 4, none⟩ = some (.string wh)) (go_keep)
                (first | (go_at_call 50; refine (between_is hf h2 _).mono ?_; rintro e w'' ⟨rfl, rfl⟩) | (go_at_call_of 87 (Value.string st); refine (partOk_is hst h3 _).mono ?_; rintro e w'' ⟨rfl, rfl⟩) | (go_at_call_of 87 (Value.string ad); refine (partOk_is had h4 _).mono ?_; rintro e w'' ⟨rfl, rfl⟩) | (go_at_call_of 87 (Value.string wh); refine (partOk_is hwh h5 _).mono ?_; rintro e w'' ⟨rfl, rfl⟩) | (go_at_call 88; refine (sideBeg_any f st ad wh _).mono ?_; rintro e w1 ⟨rfl, hb1⟩; have hc1 := bcell hb1; have hz1 : w.heap.size < w1.heap.size := (by have := hb1.size; simp at this; omega)) | (go_at_call 156; refine (begHas_any ⟨f, true, st, ad, wh⟩ wh st _ hwh hst).mono ?_; rintro e w2 ⟨rfl, hb2⟩; have hc2 := bcell hb2))
              go_wp2
              go_ret
              rw [HA.out]
              exact ⟨rfl, (((Below.refl _ _).alloc (Nat.le_refl _) _).drew.trans (hb1.mono (by simp))).trans (hb2.mono (by omega))⟩
            | false =>
              have HA : Hid (affOk ⟨f, false, st, ad, wh⟩ = endT wh st) := show affOk ⟨f, false, st, ad, wh⟩ = endT wh st by simp [affOk, HF.out, h3, h4, h5]
              have hmb := methBegHas
              have hme := methEndHas
              go_enter Tryz.func70, Tryz.ntmps70
              go_wp2
              go_region_held3 (fun w' => w'.cell? ⟨w.heap.size, 0, none⟩ = some (.string f) ∧ w'.cell? ⟨w.heap.size, 1, none⟩ = some (.bool false) ∧ w'.cell? ⟨w.heap.size, 2, none⟩ = some (.string st) ∧ w'.cell? ⟨w.heap.size, 3, none⟩ = some (.string ad) ∧ w'.cell? ⟨w.heap.size, 4, none⟩ = some (.string wh)) (go_keep)
                (first | (go_at_call 50; refine (between_is hf h2 _).mono ?_; rintro e w'' ⟨rfl, rfl⟩) | (go_at_call_of 87 (Value.string st); refine (partOk_is hst h3 _).mono ?_; rintro e w'' ⟨rfl, rfl⟩) | (go_at_call_of 87 (Value.string ad); refine (partOk_is had h4 _).mono ?_; rintro e w'' ⟨rfl, rfl⟩) | (go_at_call_of 87 (Value.string wh); refine (partOk_is hwh h5 _).mono ?_; rintro e w'' ⟨rfl, rfl⟩) | (go_at_call 88; refine (sideEnd_any f st ad wh _).mono ?_; rintro e w1 ⟨rfl, hb1⟩; have hc1 := bcell hb1; have hz1 : w.heap.size < w1.heap.size := (by have := hb1.size; simp at this; omega)) | (go_at_call 152; refine (endHas_any ⟨f, false, st, ad, wh⟩ wh st _ hwh hst).mono ?_; rintro e w2 ⟨rfl, hb2⟩; have hc2 := bcell hb2))
              go_wp2
              go_ret
              rw [HA.out]
              exact ⟨rfl, (((Below.refl _ _).alloc (Nat.le_refl _) _).drew.trans (hb1.mono (by simp))).trans (hb2.mono (by omega))⟩
end Go.Proofs.YthedglgljehmgaaGreatDoor
/-
  Parts at a side of a text: what an affix that is ok puts there, and takes back. No program in it.
-/
namespace Go.Proofs.YthedglgljehmgaaGreatDoor
set_option linter.unusedVariables false
/-- A part stands at an affix's side of a text; one part in another one's place there. -/
def hasT (fr : Bool) (s p : ByteArray) : Bool := if fr then begT s p else endT s p
def swT (fr : Bool) (s p q : ByteArray) : ByteArray := if fr then q ++ s.extract p.size s.size else s.extract 0 (s.size - p.size) ++ q
theorem toList_beq (a b : ByteArray) : (a.toList == b.toList) = true ↔ a = b := by
  rw [beq_iff_eq, ByteArray.toList_eq, ByteArray.toList_eq]
  constructor
  · intro h
    exact ByteArray.ext (Array.toList_inj.1 h)
  · rintro rfl
    rfl
theorem begT_split {s p : ByteArray} (h : begT s p = true) : ∃ r, s = p ++ r := by
  unfold begT at h
  simp only [Bool.and_eq_true, decide_eq_true_eq, toList_beq] at h
  refine ⟨s.extract p.size s.size, ?_⟩
  conv => lhs; rw [← ByteArray.extract_zero_size (b := s), ByteArray.extract_eq_extract_append_extract p.size (by omega) h.1]
  rw [h.2]
theorem begT_app (p r : ByteArray) : begT (p ++ r) p = true := by
  unfold begT
  have : (p ++ r).extract 0 p.size = p := ByteArray.extract_append_eq_left rfl
  rw [this]
  simp
theorem endT_split {s p : ByteArray} (h : endT s p = true) : ∃ r, s = r ++ p := by
  unfold endT at h
  simp only [Bool.and_eq_true, decide_eq_true_eq, toList_beq] at h
  refine ⟨s.extract 0 (s.size - p.size), ?_⟩
  conv => lhs; rw [← ByteArray.extract_zero_size (b := s), ByteArray.extract_eq_extract_append_extract (s.size - p.size) (by omega) (by omega)]
  rw [h.2]
theorem endT_app (p r : ByteArray) : endT (r ++ p) p = true := by
  unfold endT
  have : (r ++ p).extract ((r ++ p).size - p.size) (r ++ p).size = p := ByteArray.extract_append_eq_right (by simp) (by simp)
  rw [this]
  simp
theorem swBeg (p r q : ByteArray) : swT true (p ++ r) p q = q ++ r := by
  unfold swT
  rw [if_pos rfl, ByteArray.extract_append_eq_right rfl (by simp)]
theorem swEnd (p r q : ByteArray) : swT false (r ++ p) p q = r ++ q := by
  unfold swT
  rw [if_neg (by simp), ByteArray.extract_append_eq_left (by simp)]
/-- Put there and taken back, a text is what it was. -/
theorem swT_back {fr : Bool} {s p q : ByteArray} (h : hasT fr s p = true) : swT fr (swT fr s p q) q p = s ∧ hasT fr (swT fr s p q) q = true ∧ (swT fr s p q).size + p.size = s.size + q.size := by
  cases fr with
  | true =>
    obtain ⟨r, rfl⟩ := begT_split (by simpa [hasT] using h)
    rw [swBeg, swBeg]
    exact ⟨rfl, by simpa [hasT] using begT_app q r, by simp; omega⟩
  | false =>
    obtain ⟨r, rfl⟩ := endT_split (by simpa [hasT] using h)
    rw [swEnd, swEnd]
    exact ⟨rfl, by simpa [hasT] using endT_app q r, by simp; omega⟩
theorem hasT_trans {fr : Bool} {s p q : ByteArray} (h : hasT fr s p = true) (k : hasT fr p q = true) : hasT fr s q = true := by
  cases fr with
  | true =>
    obtain ⟨r, rfl⟩ := begT_split (by simpa [hasT] using h)
    obtain ⟨t, rfl⟩ := begT_split (by simpa [hasT] using k)
    rw [ByteArray.append_assoc]
    simpa [hasT] using begT_app q (t ++ r)
  | false =>
    obtain ⟨r, rfl⟩ := endT_split (by simpa [hasT] using h)
    obtain ⟨t, rfl⟩ := endT_split (by simpa [hasT] using k)
    rw [← ByteArray.append_assoc]
    simpa [hasT] using endT_app q (r ++ t)
theorem hasT_size {fr : Bool} {s p : ByteArray} (h : hasT fr s p = true) : p.size ≤ s.size := by
  cases fr with
  | true =>
    obtain ⟨r, rfl⟩ := begT_split (by simpa [hasT] using h)
    simp
  | false =>
    obtain ⟨r, rfl⟩ := endT_split (by simpa [hasT] using h)
    simp
theorem affOk_parts {a : Aff} (h : affOk a = true) : a.strip.size ≤ 4 ∧ a.add.size ≤ 4 ∧ a.wh.size ≤ 4 ∧ hasT a.front a.wh a.strip = true := by
  unfold affOk partT at h
  simp only [Bool.and_eq_true, decide_eq_true_eq] at h
  obtain ⟨-, ⟨-, h2⟩, ⟨-, h3⟩, ⟨-, h4⟩, h5⟩ := h
  exact ⟨by omega, by omega, by omega, h5⟩
theorem wok_sz {s : ByteArray} (h : wok s = true) : 0 < s.size ∧ s.size ≤ 12 := by
  unfold wok at h
  simp only [Bool.and_eq_true, decide_eq_true_eq] at h
  omega
/-- What AffixDo and AffixBack answer. -/
def doT (a : Aff) (s : ByteArray) : ByteArray × Bool :=
  if affOk a && (wok s && (hasT a.front s a.wh && wok (swT a.front s a.strip a.add))) then (swT a.front s a.strip a.add, true) else (ByteArray.empty, false)
def backT (a : Aff) (s : ByteArray) : ByteArray × Bool :=
  if affOk a && (wok s && (hasT a.front s a.add && (wok (swT a.front s a.add a.strip) && hasT a.front (swT a.front s a.add a.strip) a.wh))) then (swT a.front s a.add a.strip, true) else (ByteArray.empty, false)
end Go.Proofs.YthedglgljehmgaaGreatDoor
/-
  An affix handed over: szAffix, toAffix; the law FnExactAffixOk.
-/
namespace Go.Proofs.YthedglgljehmgaaGreatDoor
open Go.RowKit
set_option linter.unusedVariables false
/-- How much of a bound is left behind an affix's texts; -1 where they are more. -/
def szA (a : Aff) (left : Int) : Int :=
  if left - a.flag.size < 0 then -1 else if left - a.flag.size - a.strip.size < 0 then -1 else if left - a.flag.size - a.strip.size - a.add.size < 0 then -1
  else if left - a.flag.size - a.strip.size - a.add.size - a.wh.size < 0 then -1 else left - a.flag.size - a.strip.size - a.add.size - a.wh.size
set_option maxHeartbeats 1000000 in
theorem szAffix_any (a : Aff) (left : Int) (w : World) (h : a.fits) (h0 : 0 ≤ left) (h1 : left ≤ 1048576) :
    Calls Tryz.prog 61 #[.agg a.cells, .int .i64 left] w fun e w' => e = .returned (.int .i64 (szA a left)) ∧ Below w.heap.size w w' := by
  obtain ⟨f, fr, st, ad, wh⟩ := a
  obtain ⟨hf, hst, had, hwh⟩ := h
  simp only at hf hst had hwh
  unfold maxLen at hf hst had hwh
  unfold Aff.cells
  by_cases c1 : left - f.size < 0
  · have HS : Hid (szA ⟨f, fr, st, ad, wh⟩ left = -1) := show szA ⟨f, fr, st, ad, wh⟩ left = -1 by unfold szA; rw [if_pos c1]
    go_enter Tryz.func61, Tryz.ntmps61
    go_wp2
    go_ret
    rw [HS.out]
    exact ⟨rfl, (Below.refl _ _).alloc (Nat.le_refl _) _⟩
  by_cases c2 : left - f.size - st.size < 0
  · have HS : Hid (szA ⟨f, fr, st, ad, wh⟩ left = -1) := show szA ⟨f, fr, st, ad, wh⟩ left = -1 by unfold szA; rw [if_neg c1, if_pos c2]
    go_enter Tryz.func61, Tryz.ntmps61
    go_wp2
    go_ret
    rw [HS.out]
    exact ⟨rfl, (Below.refl _ _).alloc (Nat.le_refl _) _⟩
  by_cases c3 : left - f.size - st.size - ad.size < 0
  · have HS : Hid (szA ⟨f, fr, st, ad, wh⟩ left = -1) := show szA ⟨f, fr, st, ad, wh⟩ left = -1 by unfold szA; rw [if_neg c1, if_neg c2, if_pos c3]
    go_enter Tryz.func61, Tryz.ntmps61
    go_wp2
    go_ret
    rw [HS.out]
    exact ⟨rfl, (Below.refl _ _).alloc (Nat.le_refl _) _⟩
  by_cases c4 : left - f.size - st.size - ad.size - wh.size < 0
  · have HS : Hid (szA ⟨f, fr, st, ad, wh⟩ left = -1) := show szA ⟨f, fr, st, ad, wh⟩ left = -1 by unfold szA; rw [if_neg c1, if_neg c2, if_neg c3, if_pos c4]
    go_enter Tryz.func61, Tryz.ntmps61
    go_wp2
    go_ret
    rw [HS.out]
    exact ⟨rfl, (Below.refl _ _).alloc (Nat.le_refl _) _⟩
  · have HS : Hid (szA ⟨f, fr, st, ad, wh⟩ left = left - f.size - st.size - ad.size - wh.size) := show szA ⟨f, fr, st, ad, wh⟩ left = left - f.size - st.size - ad.size - wh.size by unfold szA; rw [if_neg c1, if_neg c2, if_neg c3, if_neg c4]
    go_enter Tryz.func61, Tryz.ntmps61
    go_wp2
    go_ret
    rw [HS.out]
    exact ⟨rfl, (Below.refl _ _).alloc (Nat.le_refl _) _⟩
set_option maxHeartbeats 1000000 in
theorem toAffix_any (a : Aff) (w : World) :
    Calls Tryz.prog 63 #[.agg a.cells] w fun e w' => e = .returned (.agg a.cells) ∧ Below w.heap.size w w' := by
  obtain ⟨f, fr, st, ad, wh⟩ := a
  unfold Aff.cells
  go_enter Tryz.func63, Tryz.ntmps63
  go_wp2
  refine bodyPost_ret (v := .agg #[.string f, .bool fr, .string st, .string ad, .string wh]) (by simp [results, Tryz.results63, go_sem]) rfl ⟨rfl, ?_⟩
  exact (((Below.refl _ _).alloc (Nat.le_refl _) _).alloc (by simp) _).alloc (by simp <;> omega) _
end Go.Proofs.YthedglgljehmgaaGreatDoor
/-
  One part of a text put in another one's place: swap, and l2Do.
-/
namespace Go.Proofs.YthedglgljehmgaaGreatDoor
open Go.RowKit
set_option linter.unusedVariables false
set_option maxHeartbeats 1000000 in
theorem begSwap_any (a : Aff) (s p q : ByteArray) (w : World) (hs : s.size ≤ 12) (hp : p.size ≤ s.size) (hq : q.size ≤ 4) :
    Calls Tryz.prog 157 #[.agg a.cells, .string s, .string p, .string q] w fun e w' => e = .returned (.string (swT true s p q)) ∧ Below w.heap.size w w' := by
  obtain ⟨f, fr, st, ad, wh⟩ := a
  unfold Aff.cells
  go_enter Tryz.func157, Tryz.ntmps157
  go_wp2
  go_ret
  exact ⟨rfl, (Below.refl _ _).alloc (Nat.le_refl _) _⟩
set_option maxHeartbeats 1000000 in
theorem endSwap_any (a : Aff) (s p q : ByteArray) (w : World) (hs : s.size ≤ 12) (hp : p.size ≤ s.size) (hq : q.size ≤ 4) :
    Calls Tryz.prog 153 #[.agg a.cells, .string s, .string p, .string q] w fun e w' => e = .returned (.string (swT false s p q)) ∧ Below w.heap.size w w' := by
  obtain ⟨f, fr, st, ad, wh⟩ := a
  unfold Aff.cells
  go_enter Tryz.func153, Tryz.ntmps153
  go_wp2
  go_ret
  exact ⟨rfl, (Below.refl _ _).alloc (Nat.le_refl _) _⟩
set_option maxHeartbeats 1000000 in
theorem l2Do_any (a : Aff) (s : ByteArray) (w : World) (h : a.fits) (ha : affOk a = true) (hs : wok s = true) :
    Calls Tryz.prog 104 #[.agg a.cells, .string s] w fun e w' => e = .returned (if hasT a.front s a.wh then .tuple #[.string (swT a.front s a.strip a.add), .bool (wok (swT a.front s a.strip a.add))] else .tuple #[.string ByteArray.empty, .bool false]) ∧ Below w.heap.size w w' := by
  obtain ⟨f, fr, st, ad, wh⟩ := a
  obtain ⟨p1, p2, p3, p4⟩ := affOk_parts ha
  obtain ⟨s0, s1⟩ := wok_sz hs
  obtain ⟨hf, hst, had, hwh⟩ := h
  simp only at hf hst had hwh p1 p2 p3 p4
  have hsm : s.size ≤ maxLen := by unfold maxLen; omega
  clear ha hs
  unfold Aff.cells
  dsimp only
  cases hh : hasT fr s wh with
  | false =>
    cases fr with
    | true =>
      have hb : begT s wh = false := by simpa [hasT] using hh
      clear hh p4
      go_enter Tryz.func104, Tryz.ntmps104
      go_wp2_with (first | (go_at_call 101; refine (l2Begins_any _ _ _ hsm hwh).mono ?_; rintro e w' ⟨rfl, rfl⟩; rw [hb]))
      go_ret2
      exact ⟨rfl, (Below.refl _ _).alloc (Nat.le_refl _) _⟩
    | false =>
      have hb : endT s wh = false := by simpa [hasT] using hh
      clear hh p4
      go_enter Tryz.func104, Tryz.ntmps104
      go_wp2_with (first | (go_at_call 102; refine (l2Ends_any _ _ _ hsm hwh).mono ?_; rintro e w' ⟨rfl, rfl⟩; rw [hb]))
      go_ret2
      exact ⟨rfl, (Below.refl _ _).alloc (Nat.le_refl _) _⟩
  | true =>
    have hz := hasT_size (hasT_trans hh p4)
    have hzz := (swT_back (q := ad) (hasT_trans hh p4)).2.2
    have hmm : (swT fr s st ad).size ≤ maxLen := by unfold maxLen; omega
    cases fr with
    | true =>
      have hb : begT s wh = true := by simpa [hasT] using hh
      have HW : Hid (∀ wx : World, Calls Tryz.prog 84 #[.string (ad ++ s.extract st.size s.size)] wx fun e w' => e = .returned (.bool (wok (swT true s st ad))) ∧ w' = wx) := by
        have : ∀ wx : World, Calls Tryz.prog 84 #[.string (ad ++ s.extract st.size s.size)] wx fun e w' => e = .returned (.bool (wok (swT true s st ad))) ∧ w' = wx := fun wx => by simpa [swT] using l1Word_any (swT true s st ad) wx hmm
        exact this
      clear hh p4 hzz hmm
      go_enter Tryz.func104, Tryz.ntmps104
      go_wp2_with (first | (go_at_call 101; refine (l2Begins_any _ _ _ hsm hwh).mono ?_; rintro e w' ⟨rfl, rfl⟩; rw [hb]))
      go_quiet (fail)
      go_wp2_with (go_at_call 84; refine (HW.out _).mono ?_; rintro e w' ⟨rfl, rfl⟩)
      go_ret2
      exact ⟨rfl, below_drewN ((Below.refl _ _).alloc (Nat.le_refl _) _) _⟩
    | false =>
      have hb : endT s wh = true := by simpa [hasT] using hh
      have HW : Hid (∀ wx : World, Calls Tryz.prog 84 #[.string (s.extract 0 (s.size - st.size) ++ ad)] wx fun e w' => e = .returned (.bool (wok (swT false s st ad))) ∧ w' = wx) := by
        have : ∀ wx : World, Calls Tryz.prog 84 #[.string (s.extract 0 (s.size - st.size) ++ ad)] wx fun e w' => e = .returned (.bool (wok (swT false s st ad))) ∧ w' = wx := fun wx => by simpa [swT] using l1Word_any (swT false s st ad) wx hmm
        exact this
      clear hh p4 hzz hmm
      go_enter Tryz.func104, Tryz.ntmps104
      go_wp2_with (first | (go_at_call 102; refine (l2Ends_any _ _ _ hsm hwh).mono ?_; rintro e w' ⟨rfl, rfl⟩; rw [hb]))
      go_quiet (fail)
      go_wp2_with (go_at_call 84; refine (HW.out _).mono ?_; rintro e w' ⟨rfl, rfl⟩)
      go_ret2
      exact ⟨rfl, below_drewN ((Below.refl _ _).alloc (Nat.le_refl _) _) _⟩
end Go.Proofs.YthedglgljehmgaaGreatDoor
/-
  AffixDo and AffixBack, of the model.
-/
namespace Go.Proofs.YthedglgljehmgaaGreatDoor
open Go.RowKit
set_option linter.unusedVariables false
theorem doT_no {a : Aff} {s : ByteArray} (h : (affOk a && (wok s && (hasT a.front s a.wh && wok (swT a.front s a.strip a.add)))) = false) : doT a s = (ByteArray.empty, false) := by
  unfold doT; rw [h]; rfl
theorem doT_yes {a : Aff} {s : ByteArray} (h : (affOk a && (wok s && (hasT a.front s a.wh && wok (swT a.front s a.strip a.add)))) = true) : doT a s = (swT a.front s a.strip a.add, true) := by
  unfold doT; rw [h]; rfl
theorem backT_no {a : Aff} {s : ByteArray} (h : (affOk a && (wok s && (hasT a.front s a.add && (wok (swT a.front s a.add a.strip) && hasT a.front (swT a.front s a.add a.strip) a.wh)))) = false) : backT a s = (ByteArray.empty, false) := by
  unfold backT; rw [h]; rfl
theorem backT_yes {a : Aff} {s : ByteArray} (h : (affOk a && (wok s && (hasT a.front s a.add && (wok (swT a.front s a.add a.strip) && hasT a.front (swT a.front s a.add a.strip) a.wh)))) = true) : backT a s = (swT a.front s a.add a.strip, true) := by
  unfold backT; rw [h]; rfl
end Go.Proofs.YthedglgljehmgaaGreatDoor
/-
  AffixDo and AffixBack, of the program.
-/
namespace Go.Proofs.YthedglgljehmgaaGreatDoor
open Go.RowKit
set_option linter.unusedVariables false
/-- Which method swap leads to. -/
theorem methBegSwap (v : Value) (wx : World) : (method 297 120 v "loop.example/medlar/impl.swap").run Tryz.prog wx = .ok (157, v) wx := by kernel_rfl
theorem methEndSwap (v : Value) (wx : World) : (method 297 117 v "loop.example/medlar/impl.swap").run Tryz.prog wx = .ok (153, v) wx := by kernel_rfl
theorem hasBeg (s p : ByteArray) : begT s p = hasT true s p := rfl
theorem hasEnd (s p : ByteArray) : endT s p = hasT false s p := rfl
set_option maxRecDepth 100000 in
set_option maxHeartbeats 2000000 in
theorem implAffixDo_any (a : Aff) (s : ByteArray) (w : World) (h : a.fits) (hs : s.size ≤ maxLen) :
    Calls Tryz.prog 74 #[.agg a.cells, .string s] w fun e w' => e = .returned (.tuple #[.string (doT a s).1, .bool (doT a s).2]) ∧ Below w.heap.size w w' := by
  obtain ⟨f, fr, st, ad, wh⟩ := a
  have HF : Hid (Aff.fits ⟨f, fr, st, ad, wh⟩) := h
  unfold Aff.cells
  clear h
  cases fr with
  | true =>
    have hmb := methBegHas
    have hms := methBegSwap
    go_enter Tryz.func74, Tryz.ntmps74
    go_wp2_with fail
    refine (sideBeg_any f st ad wh _).mono ?_
    rintro e w1 ⟨rfl, hb1⟩
    have hb1' : Below w.heap.size w w1 := ((Below.refl _ _).alloc (Nat.le_refl _) _).trans (hb1.mono (by simp))
    have hc1 := bcell hb1
    have hz1 : w.heap.size < w1.heap.size := by have := hb1.size; simp at this; omega
    clear hb1
    go_wp2_with fail
    refine (implAffixOk_any ⟨f, true, st, ad, wh⟩ _ HF.out).mono ?_
    rintro e w2 ⟨rfl, hb2⟩
    have hb2' : Below w.heap.size w w2 := hb1'.trans (hb2.mono hb1'.size)
    have hc2 := bcell hb2
    have hz2 : w.heap.size < w2.heap.size := by have := hb2.size; omega
    clear hb2
    cases hA : affOk ⟨f, true, st, ad, wh⟩ with
    | false =>
      have HD : Hid (doT ⟨f, true, st, ad, wh⟩ s = (ByteArray.empty, false)) := doT_no (by simp [hA])
      go_wp2
      go_ret2
      rw [HD.out]
      exact ⟨rfl, hb2'⟩
    | true =>
      have HA : Hid (affOk ⟨f, true, st, ad, wh⟩ = true) := hA
      obtain ⟨p1, p2, p3, p4⟩ := affOk_parts hA
      dsimp only at p1 p2 p3 p4
      clear hA
      have HP : Hid (hasT true wh st = true) := p4
      clear p4
      go_wp2_with fail
      refine (wordOk_any s _ hs).mono ?_
      rintro e w2' ⟨rfl, rfl⟩
      cases hW : wok s with
      | false =>
        have HD : Hid (doT ⟨f, true, st, ad, wh⟩ s = (ByteArray.empty, false)) := doT_no (by simp [hW])
        go_wp2
        go_ret2
        rw [HD.out]
        exact ⟨rfl, hb2'⟩
      | true =>
        have HW : Hid (wok s = true) := hW
        obtain ⟨s0, s1⟩ := wok_sz hW
        clear hW
        go_wp2_with fail
        refine (begHas_any ⟨f, true, st, ad, wh⟩ s wh _ hs HF.out.2.2.2).mono ?_
        rintro e w3 ⟨rfl, hb3⟩
        have hb3' : Below w.heap.size w w3 := hb2'.trans (hb3.mono hb2'.size)
        have hc3 := bcell hb3
        have hz3 : w.heap.size < w3.heap.size := by have := hb3.size; omega
        clear hb3
        rw [hasBeg]
        cases hH : hasT true s wh with
        | false =>
          have HD : Hid (doT ⟨f, true, st, ad, wh⟩ s = (ByteArray.empty, false)) := doT_no (by simp [hH])
          go_wp2
          go_ret2
          rw [HD.out]
          exact ⟨rfl, hb3'⟩
        | true =>
          have HH : Hid (hasT true s wh = true) := hH
          clear hH
          go_wp2_with fail
          refine (begSwap_any ⟨f, true, st, ad, wh⟩ s st ad _ s1 (hasT_size (hasT_trans HH.out HP.out)) p2).mono ?_
          rintro e w4 ⟨rfl, hb4⟩
          have hb4' : Below w.heap.size w w4 := hb3'.trans (hb4.mono hb3'.size)
          have hc4 := bcell hb4
          have hz4 : w.heap.size < w4.heap.size := by have := hb4.size; omega
          clear hb4
          have HS : Hid ((swT true s st ad).size ≤ maxLen) := by
            have : (swT true s st ad).size ≤ maxLen := by have := (swT_back (q := ad) (hasT_trans HH.out HP.out)).2.2; unfold maxLen; omega
            exact this
          go_wp2_with fail
          refine (wordOk_any (swT true s st ad) _ HS.out).mono ?_
          rintro e w4' ⟨rfl, rfl⟩
          cases hM : wok (swT true s st ad) with
          | false =>
            have HD : Hid (doT ⟨f, true, st, ad, wh⟩ s = (ByteArray.empty, false)) := doT_no (by simp [hM])
            go_wp2
            go_ret2
            rw [HD.out]
            exact ⟨rfl, hb4'⟩
          | true =>
            have HD : Hid (doT ⟨f, true, st, ad, wh⟩ s = (swT true s st ad, true)) := doT_yes (by simp [hM, HH.out, HA.out, HW.out])
            go_wp2
            go_ret2
            rw [HD.out]
            exact ⟨rfl, hb4'⟩
  | false =>
    have hmb := methEndHas
    have hms := methEndSwap
    go_enter Tryz.func74, Tryz.ntmps74
    go_wp2_with fail
    refine (sideEnd_any f st ad wh _).mono ?_
    rintro e w1 ⟨rfl, hb1⟩
    have hb1' : Below w.heap.size w w1 := ((Below.refl _ _).alloc (Nat.le_refl _) _).trans (hb1.mono (by simp))
    have hc1 := bcell hb1
    have hz1 : w.heap.size < w1.heap.size := by have := hb1.size; simp at this; omega
    clear hb1
    go_wp2_with fail
    refine (implAffixOk_any ⟨f, false, st, ad, wh⟩ _ HF.out).mono ?_
    rintro e w2 ⟨rfl, hb2⟩
    have hb2' : Below w.heap.size w w2 := hb1'.trans (hb2.mono hb1'.size)
    have hc2 := bcell hb2
    have hz2 : w.heap.size < w2.heap.size := by have := hb2.size; omega
    clear hb2
    cases hA : affOk ⟨f, false, st, ad, wh⟩ with
    | false =>
      have HD : Hid (doT ⟨f, false, st, ad, wh⟩ s = (ByteArray.empty, false)) := doT_no (by simp [hA])
      go_wp2
      go_ret2
      rw [HD.out]
      exact ⟨rfl, hb2'⟩
    | true =>
      have HA : Hid (affOk ⟨f, false, st, ad, wh⟩ = true) := hA
      obtain ⟨p1, p2, p3, p4⟩ := affOk_parts hA
      dsimp only at p1 p2 p3 p4
      clear hA
      have HP : Hid (hasT false wh st = true) := p4
      clear p4
      go_wp2_with fail
      refine (wordOk_any s _ hs).mono ?_
      rintro e w2' ⟨rfl, rfl⟩
      cases hW : wok s with
      | false =>
        have HD : Hid (doT ⟨f, false, st, ad, wh⟩ s = (ByteArray.empty, false)) := doT_no (by simp [hW])
        go_wp2
        go_ret2
        rw [HD.out]
        exact ⟨rfl, hb2'⟩
      | true =>
        have HW : Hid (wok s = true) := hW
        obtain ⟨s0, s1⟩ := wok_sz hW
        clear hW
        go_wp2_with fail
        refine (endHas_any ⟨f, false, st, ad, wh⟩ s wh _ hs HF.out.2.2.2).mono ?_
        rintro e w3 ⟨rfl, hb3⟩
        have hb3' : Below w.heap.size w w3 := hb2'.trans (hb3.mono hb2'.size)
        have hc3 := bcell hb3
        have hz3 : w.heap.size < w3.heap.size := by have := hb3.size; omega
        clear hb3
        rw [hasEnd]
        cases hH : hasT false s wh with
        | false =>
          have HD : Hid (doT ⟨f, false, st, ad, wh⟩ s = (ByteArray.empty, false)) := doT_no (by simp [hH])
          go_wp2
          go_ret2
          rw [HD.out]
          exact ⟨rfl, hb3'⟩
        | true =>
          have HH : Hid (hasT false s wh = true) := hH
          clear hH
          go_wp2_with fail
          refine (endSwap_any ⟨f, false, st, ad, wh⟩ s st ad _ s1 (hasT_size (hasT_trans HH.out HP.out)) p2).mono ?_
          rintro e w4 ⟨rfl, hb4⟩
          have hb4' : Below w.heap.size w w4 := hb3'.trans (hb4.mono hb3'.size)
          have hc4 := bcell hb4
          have hz4 : w.heap.size < w4.heap.size := by have := hb4.size; omega
          clear hb4
          have HS : Hid ((swT false s st ad).size ≤ maxLen) := by
            have : (swT false s st ad).size ≤ maxLen := by have := (swT_back (q := ad) (hasT_trans HH.out HP.out)).2.2; unfold maxLen; omega
            exact this
          go_wp2_with fail
          refine (wordOk_any (swT false s st ad) _ HS.out).mono ?_
          rintro e w4' ⟨rfl, rfl⟩
          cases hM : wok (swT false s st ad) with
          | false =>
            have HD : Hid (doT ⟨f, false, st, ad, wh⟩ s = (ByteArray.empty, false)) := doT_no (by simp [hM])
            go_wp2
            go_ret2
            rw [HD.out]
            exact ⟨rfl, hb4'⟩
          | true =>
            have HD : Hid (doT ⟨f, false, st, ad, wh⟩ s = (swT false s st ad, true)) := doT_yes (by simp [hM, HH.out, HA.out, HW.out])
            go_wp2
            go_ret2
            rw [HD.out]
            exact ⟨rfl, hb4'⟩
end Go.Proofs.YthedglgljehmgaaGreatDoor
