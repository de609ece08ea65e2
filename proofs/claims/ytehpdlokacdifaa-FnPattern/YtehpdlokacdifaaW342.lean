/-
  PatternOk of both.
-/
import Derived.Test.YtehpdlokacdifaaGW341
import Derived.Test.YtehpdlokacdifaaGW2
import Derived.Test.YtehpdlokacdifaaM44
import Derived.Test.YtehpdlokacdifaaShelf
namespace Go.Proofs.Ytehpdlokacdifaa
open Go.RowKit
set_option linter.unusedVariables false
/-- What stands between the points. -/
def midL (s : ByteArray) : List UInt8 := Lib.trimSuffix (Lib.trimPrefix s.data.toList [46]) [46]
def figT (ns : List Int) : Bool := ns.all fun n => inI n 0 9
/-- A pattern is ok. -/
def patOk (x : PatM) : Bool := decide (1 ≤ x.1.size) && (decide (x.1.size ≤ 8) && (inr 97 122 (midL x.1) && (decide (x.2.length = x.1.size + 1) && figT x.2)))
theorem midL_ok (s : ByteArray) : inr 97 122 (midL s) = true ↔ LOk s.data.toList := trims_iff _
theorem fig_take {ns : List Int} {k : Nat} {x : Int} (h : ns[k]? = some x) : (ns.take (k + 1)).all (fun n => inI n 0 9) = ((ns.take k).all (fun n => inI n 0 9) && inI x 0 9) := by
  rw [List.take_add_one, h]; simp
theorem fig_bad {ns : List Int} {k : Nat} {x : Int} (h : ns[k]? = some x) (hb : inI x 0 9 = false) : figT ns = false := by
  unfold figT
  rw [List.all_eq_false]
  exact ⟨x, List.mem_of_getElem? h, by rw [hb]; decide⟩
set_option maxHeartbeats 1000000 in
theorem allFigures_any (w : World) (v : Value) (ns : List Int) (h : IntsAt w v ns) :
    Calls Try.prog 21 #[v] w fun e w' => e = .returned (.bool (figT ns)) ∧ w' = w := by
  obtain ⟨a, cap, rfl, hc, hm⟩ := h.form
  have HS : Hid (IntsAt w (.slice a ns.length cap) ns) := h
  clear h
  unfold maxLen at hm
  go_enter Try.func21, Try.ntmps21
  go_wp2
  go_loop [7] (fun i => ∃ k : Nat, k ≤ ns.length ∧ i = .int .i64 k ∧ (ns.take k).all (fun n => inI n 0 9) = true) (fun i => ns.length - (intOf i).toNat)
  case atStart => exact ⟨0, Nat.zero_le _, rfl, rfl⟩
  case round =>
    obtain ⟨k, hk, rfl, hr⟩ := hrel
    have HR : Hid ((ns.take k).all (fun n => inI n 0 9) = true) := hr
    clear hr
    by_cases hlt : k < ns.length
    · obtain ⟨b, off, cap', x, hv, hbl, hx, e0⟩ := HS.out.at hlt
      cases hv
      have HT : Hid ((ns.take (k + 1)).all (fun n => inI n 0 9) = inI x 0 9) := by show _ = _; rw [fig_take hx, HR.out, Bool.true_and]
      have HB : Hid (inI x 0 9 = false → figT ns = false) := fun hb => fig_bad hx hb
      clear hx
      by_cases h1 : x < 0
      · have HF : Hid (figT ns = false) := HB.out (by unfold inI; simp; omega)
        go_wp2
        go_ret
        exact ⟨ret_bool (by rw [HF.out]), rfl⟩
      · by_cases h2 : 9 < x
        · have HF : Hid (figT ns = false) := HB.out (by unfold inI; simp; omega)
          go_wp2
          go_ret
          exact ⟨ret_bool (by rw [HF.out]), rfl⟩
        · go_wp2
          go_round
          case rel => exact ⟨k + 1, by omega, by go_num, by rw [HT.out]; unfold inI; simp; omega⟩
          case measure => simp [intOf]; omega
    · have HF : Hid (figT ns = true) := by
        show figT ns = true
        have h := HR.out
        rw [List.take_of_length_le (by omega)] at h
        exact h
      go_wp2
      go_ret
      exact ⟨ret_bool (by rw [HF.out]), rfl⟩
theorem toList_nil4 (s : ByteArray) : s.toList = [] ↔ s.size = 0 := by
  rw [ByteArray.toList_eq]
  have : s.size = s.data.toList.length := rfl
  rw [this, List.length_eq_zero_iff]
theorem trimPre_any (s : ByteArray) (w : World) : Calls Try.prog 20 #[.string s, .string ⟨#[46]⟩] w fun e w' => e = .returned (.string ⟨(Lib.trimPrefix s.data.toList [46]).toArray⟩) ∧ w' = w := Try.strings_TrimPrefix s ⟨#[46]⟩ w
theorem trimSuf_any (s : ByteArray) (w : World) (hs : s.size ≤ 9223372036854775807) : Calls Try.prog 19 #[.string s, .string ⟨#[46]⟩] w fun e w' => e = .returned (.string ⟨(Lib.trimSuffix s.data.toList [46]).toArray⟩) ∧ w' = w := Try.strings_TrimSuffix s ⟨#[46]⟩ w hs
theorem trimP_size (l : List UInt8) : (Lib.trimPrefix l [46]).length ≤ l.length := by
  unfold Lib.trimPrefix; split
  · simp
  · exact Nat.le_refl _
theorem trimS_size (l : List UInt8) : (Lib.trimSuffix l [46]).length ≤ l.length := by
  unfold Lib.trimSuffix; split
  · exact List.length_take_le' _ _
  · exact Nat.le_refl _
set_option maxHeartbeats 2000000 in
theorem implPatternOk_any (w : World) (v : Value) (x : PatM) (h : PatAt w v x) :
    Calls Try.prog 8 #[v] w fun e w' => e = .returned (.bool (patOk x)) ∧ Below w.heap.size w w' := by
  obtain ⟨vn, rfl, hs0, hn⟩ := h
  obtain ⟨s, ns⟩ := x
  simp only at hs0 hn
  have hs := hs0
  unfold maxLen at hs
  obtain ⟨a, cap, rfl, hc, hm⟩ := hn.form
  have HN : Hid (IntsAt w (.slice a ns.length cap) ns) := hn
  have HP : Hid (patOk (s, ns) = (decide (1 ≤ s.size) && (decide (s.size ≤ 8) && (inr 97 122 (midL s) && (decide (ns.length = s.size + 1) && figT ns))))) := rfl
  unfold maxLen at hm
  obtain ⟨T, hT⟩ : ∃ T : ByteArray, (⟨(Lib.trimPrefix s.data.toList [46]).toArray⟩ : ByteArray) = T := ⟨_, rfl⟩
  obtain ⟨M, hM⟩ : ∃ M : ByteArray, (⟨(Lib.trimSuffix T.data.toList [46]).toArray⟩ : ByteArray) = M := ⟨_, rfl⟩
  have hTs : T.size ≤ 2 ^ 63 - 1 := by
    rw [← hT]
    have := trimP_size s.data.toList
    have e : s.data.toList.length = s.size := rfl
    show (List.toArray _).size ≤ _
    rw [List.size_toArray]; omega
  have hMs : M.size ≤ maxLen := by
    rw [← hM]
    have := trimS_size T.data.toList
    have e : T.data.toList.length = T.size := rfl
    show (List.toArray _).size ≤ _
    unfold maxLen
    rw [List.size_toArray]; omega
  have hmid : midL s = M.data.toList := by rw [← hM, ← hT]; unfold midL; simp
  rw [hmid] at HP
  have HT : Hid _ := hT
  have HM : Hid _ := hM
  have HTS : Hid (T.size ≤ 9223372036854775807) := by show _ ≤ _; omega
  have HMS : Hid (M.size ≤ maxLen) := hMs
  have HB0 : Hid (Below w.heap.size w (w.alloc (.cells #[.string s, .slice a ns.length cap] 25))) := (Below.refl _ _).alloc (Nat.le_refl _) _
  clear hn hT hM hTs hMs hmid
  by_cases h0 : s.toList = []
  · have h0' := (toList_nil4 s).1 h0
    have HF : Hid (patOk (s, ns) = false) := by show _ = _; rw [HP.out]; simp [h0']
    go_enter Try.func8, Try.ntmps8
    go_wp2_with (first | (go_at_call 20; refine (trimPre_any s _).mono ?_; rintro e w' ⟨he, hw⟩; have hw2 := hw.symm; clear hw; subst hw2; rw [HT.out] at he; subst he) | (go_at_call 19; refine (trimSuf_any T _ HTS.out).mono ?_; rintro e w' ⟨he, hw⟩; have hw2 := hw.symm; clear hw; subst hw2; rw [HM.out] at he; subst he))
    go_ret
    exact ⟨ret_bool (by rw [HF.out]), HB0.out⟩
  have hp : 1 ≤ s.size := by have := mt (toList_nil4 s).2 h0; omega
  have h0n : s.toList.isEmpty = false := by simpa using h0
  by_cases h8 : (s.size : Int) ≤ 8
  · cases hb : inr 97 122 M.data.toList with
    | false =>
      have HX : Hid _ := hb
      have HF : Hid (patOk (s, ns) = false) := by show _ = _; rw [HP.out, hb]; simp
      clear hb
      go_enter Try.func8, Try.ntmps8
      go_wp2_with (first | (go_at_call 20; refine (trimPre_any s _).mono ?_; rintro e w' ⟨he, hw⟩; have hw2 := hw.symm; clear hw; subst hw2; rw [HT.out] at he; subst he) | (go_at_call 19; refine (trimSuf_any T _ HTS.out).mono ?_; rintro e w' ⟨he, hw⟩; have hw2 := hw.symm; clear hw; subst hw2; rw [HM.out] at he; subst he) | (go_at_call 17; refine (between_any M 97 122 _ HMS.out).mono ?_; rintro e w' ⟨he, hw⟩; have hw2 := hw.symm; clear hw; subst hw2; rw [HX.out] at he; subst he))
      go_ret
      exact ⟨ret_bool (by rw [HF.out]), HB0.out⟩
    | true =>
      have HX : Hid _ := hb
      by_cases hl : (ns.length : Int) = (s.size : Int) + 1
      · have HF : Hid (patOk (s, ns) = figT ns) := by
          show _ = _
          rw [HP.out, hb, decide_eq_true hp, decide_eq_true (by omega : s.size ≤ 8), decide_eq_true (by omega : ns.length = s.size + 1)]; simp
        clear hb
        go_enter Try.func8, Try.ntmps8
        go_wp2_with (first | (go_at_call 20; refine (trimPre_any s _).mono ?_; rintro e w' ⟨he, hw⟩; have hw2 := hw.symm; clear hw; subst hw2; rw [HT.out] at he; subst he) | (go_at_call 19; refine (trimSuf_any T _ HTS.out).mono ?_; rintro e w' ⟨he, hw⟩; have hw2 := hw.symm; clear hw; subst hw2; rw [HM.out] at he; subst he) | (go_at_call 17; refine (between_any M 97 122 _ HMS.out).mono ?_; rintro e w' ⟨he, hw⟩; have hw2 := hw.symm; clear hw; subst hw2; rw [HX.out] at he; subst he) | (go_at_call 21; refine (allFigures_any _ _ ns (HN.out.below HB0.out)).mono ?_; rintro e w' ⟨rfl, hw⟩; have hw2 := hw.symm; clear hw; subst hw2))
        go_ret
        exact ⟨ret_bool (by rw [HF.out]), HB0.out⟩
      · have HF : Hid (patOk (s, ns) = false) := by show _ = _; rw [HP.out, decide_eq_false (by omega : ¬ ns.length = s.size + 1)]; simp
        have hl2 : ((ns.length : Int) == (s.size : Int) + 1) = false := by simpa using hl
        clear hb
        go_enter Try.func8, Try.ntmps8
        go_wp2_with (first | (go_at_call 20; refine (trimPre_any s _).mono ?_; rintro e w' ⟨he, hw⟩; have hw2 := hw.symm; clear hw; subst hw2; rw [HT.out] at he; subst he) | (go_at_call 19; refine (trimSuf_any T _ HTS.out).mono ?_; rintro e w' ⟨he, hw⟩; have hw2 := hw.symm; clear hw; subst hw2; rw [HM.out] at he; subst he) | (go_at_call 17; refine (between_any M 97 122 _ HMS.out).mono ?_; rintro e w' ⟨he, hw⟩; have hw2 := hw.symm; clear hw; subst hw2; rw [HX.out] at he; subst he))
        go_ret
        exact ⟨ret_bool (by rw [HF.out]), HB0.out⟩
  · have HF : Hid (patOk (s, ns) = false) := by show _ = _; rw [HP.out, decide_eq_false (by omega : ¬ s.size ≤ 8)]; simp
    go_enter Try.func8, Try.ntmps8
    go_wp2_with (first | (go_at_call 20; refine (trimPre_any s _).mono ?_; rintro e w' ⟨he, hw⟩; have hw2 := hw.symm; clear hw; subst hw2; rw [HT.out] at he; subst he) | (go_at_call 19; refine (trimSuf_any T _ HTS.out).mono ?_; rintro e w' ⟨he, hw⟩; have hw2 := hw.symm; clear hw; subst hw2; rw [HM.out] at he; subst he))
    go_ret
    exact ⟨ret_bool (by rw [HF.out]), HB0.out⟩
theorem at_get (s : ByteArray) (k : Nat) (h : k < s.size) : s.data.toList[k]? = some s[k] := by
  have e2 : s[k] = s.data.toList[k]'(by simpa using h) := rfl
  rw [e2]; exact List.getElem?_eq_getElem (by simpa using h)
set_option maxHeartbeats 2000000 in
theorem specPatternOk_any (w : World) (v : Value) (x : PatM) (h : PatAt w v x) :
    Calls Try.prog 9 #[v] w fun e w' => e = .returned (.bool (patOk x)) ∧ Below w.heap.size w w' := by
  obtain ⟨vn, rfl, hs0, hn⟩ := h
  obtain ⟨s, ns⟩ := x
  simp only at hs0 hn
  have hs := hs0
  unfold maxLen at hs
  obtain ⟨a, cap, rfl, hc, hm⟩ := hn.form
  have HN : Hid (IntsAt w (.slice a ns.length cap) ns) := hn
  have HP : Hid (patOk (s, ns) = (decide (1 ≤ s.size) && (decide (s.size ≤ 8) && (inr 97 122 (midL s) && (decide (ns.length = s.size + 1) && figT ns))))) := rfl
  unfold maxLen at hm
  obtain ⟨W0, hW0⟩ : ∃ W0, w.alloc (.cells #[.string s, .slice a ns.length cap] 25) = W0 := ⟨_, rfl⟩
  have HB0 : Hid (Below w.heap.size w W0) := by show Below _ _ _; rw [← hW0]; exact (Below.refl _ _).alloc (Nat.le_refl _) _
  have c0 : W0.cell? ⟨w.heap.size, 0, none⟩ = some (.string s) := by rw [← hW0]; simp [go_sem]
  have c1 : W0.cell? ⟨w.heap.size, 1, none⟩ = some (.slice a ns.length cap) := by rw [← hW0]; simp [go_sem]
  have HN0 : Hid (IntsAt W0 (.slice a ns.length cap) ns) := HN.out.below HB0.out
  clear hn
  go_enter Try.func9, Try.ntmps9
  go_wp2
  clear hW0
  go_loop [4] (fun i => ∃ k : Nat, k ≤ s.size ∧ i = .int .i64 k ∧ ∀ (j : Nat) (c : UInt8), j < k → s.data.toList[j]? = some c → (c = 46 ∧ (j = 0 ∨ j + 1 = s.data.toList.length)) ∨ isLoP c) (fun i => s.size - (intOf i).toNat)
  case atStart => exact ⟨0, Nat.zero_le _, rfl, fun j c hj => absurd hj (by omega)⟩
  case round =>
    obtain ⟨k, hk, rfl, hr⟩ := hrel
    have HR : Hid (∀ (j : Nat) (c : UInt8), j < k → s.data.toList[j]? = some c → (c = 46 ∧ (j = 0 ∨ j + 1 = s.data.toList.length)) ∨ isLoP c) := hr
    clear hr
    by_cases hlt : k < s.size
    · have HK : Hid (s.data.toList[k]? = some s[k]) := at_get s k hlt
      have HNX : Hid (((s[k] = 46 ∧ (k = 0 ∨ k + 1 = s.data.toList.length)) ∨ isLoP s[k]) → ∀ (j : Nat) (c : UInt8), j < k + 1 → s.data.toList[j]? = some c → (c = 46 ∧ (j = 0 ∨ j + 1 = s.data.toList.length)) ∨ isLoP c) := by
        intro hq j c hj hc
        by_cases e : j = k
        · subst e
          rw [HK.out] at hc
          cases hc
          exact hq
        · exact HR.out j c (by omega) hc
      have HBAD : Hid (¬ ((s[k] = 46 ∧ (k = 0 ∨ k + 1 = s.data.toList.length)) ∨ isLoP s[k]) → patOk (s, ns) = false) := by
        intro hq
        have hm : inr 97 122 (midL s) = false := by
          cases hb : inr 97 122 (midL s) with
          | false => rfl
          | true => exact absurd ((midL_ok s).1 hb k _ HK.out) hq
        rw [HP.out, hm]; simp
      obtain ⟨p, hp⟩ : ∃ p : Nat, s.size - 1 = p := ⟨_, rfl⟩
      have hw1 : IntKind.i64.wrap ((s.size : Int) - 1) = (p : Int) := by rw [IntWalk.i64_in _ (by omega)]; omega
      have hlen : s.data.toList.length = s.size := rfl
      have hc46 : s[k] = 46 ↔ (s[k].toNat : Int) = 46 := by
        constructor
        · intro h; rw [h]; rfl
        · intro h; exact UInt8.toNat_inj.1 (by show s[k].toNat = 46; omega)
      have HC46 : Hid _ := hc46
      clear hc46
      by_cases hL1 : (97 : Int) ≤ (s[k].toNat : Int)
      · by_cases hL2 : (s[k].toNat : Int) ≤ 122
        · have HGO : Hid _ := HNX.out (.inr ⟨hL1, hL2⟩)
          have hne : ¬ (s[k].toNat : Int) = 46 := by omega
          clear hlen
          go_wp2
          go_round
          case rel => exact ⟨k + 1, by omega, by go_num, HGO.out⟩
          case measure => simp [intOf]; omega
        · have hne : ¬ (s[k].toNat : Int) = 46 := by omega
          have HF : Hid (patOk (s, ns) = false) := HBAD.out (by rintro (⟨h1, _⟩ | ⟨_, h2⟩); exact hne (HC46.out.1 h1); exact hL2 h2)
          clear hlen
          go_wp2
          go_ret
          exact ⟨ret_bool (by rw [HF.out]), HB0.out⟩
      · by_cases hp46 : (s[k].toNat : Int) = 46
        · by_cases hk0 : k = 0
          · have HGO : Hid _ := HNX.out (.inl ⟨HC46.out.2 hp46, .inl hk0⟩)
            have hk0' : ((k : Int) == 0) = true := by simp; omega
            clear hlen hk0
            go_wp2
            go_round
            case rel => exact ⟨k + 1, by omega, by go_num, HGO.out⟩
            case measure => simp [intOf]; omega
          · by_cases hkl : k + 1 = s.size
            · have HGO : Hid _ := HNX.out (.inl ⟨HC46.out.2 hp46, .inr (by rw [hlen]; exact hkl)⟩)
              have hk0' : ((k : Int) == 0) = false := by simp; omega
              have hkp : ((k : Int) == (p : Int)) = true := by simp; omega
              clear hlen hk0 hkl
              go_wp2
              go_round
              case rel => exact ⟨k + 1, by omega, by go_num, HGO.out⟩
              case measure => simp [intOf]; omega
            · have HF : Hid (patOk (s, ns) = false) := HBAD.out (by rintro (⟨_, h1 | h1⟩ | ⟨h2, _⟩); exact hk0 h1; exact hkl (by rw [← hlen]; exact h1); exact hL1 h2)
              have hk0' : ((k : Int) == 0) = false := by simp; omega
              have hkp : ((k : Int) == (p : Int)) = false := by simp; omega
              clear hlen hk0 hkl
              go_wp2
              go_ret
              exact ⟨ret_bool (by rw [HF.out]), HB0.out⟩
        · have HF : Hid (patOk (s, ns) = false) := HBAD.out (by rintro (⟨h1, _⟩ | ⟨h2, _⟩); exact hp46 (HC46.out.1 h1); exact hL1 h2)
          clear hlen
          go_wp2
          go_ret
          exact ⟨ret_bool (by rw [HF.out]), HB0.out⟩
    · have HMID : Hid (inr 97 122 (midL s) = true) := (midL_ok s).2 (fun i c hc => HR.out i c (by have := (List.getElem?_eq_some_iff.1 hc).1; have e : s.data.toList.length = s.size := rfl; omega) hc)
      go_wp2
      go_loop [6] (fun i => ∃ k : Nat, k ≤ ns.length ∧ i = .int .i64 k ∧ (ns.take k).all (fun n => inI n 0 9) = true) (fun i => ns.length - (intOf i).toNat)
      case atStart => exact ⟨0, Nat.zero_le _, rfl, rfl⟩
      case round =>
        obtain ⟨q, hq, rfl, hr⟩ := hrel
        have HQ : Hid ((ns.take q).all (fun n => inI n 0 9) = true) := hr
        clear hr
        by_cases hlt2 : q < ns.length
        · obtain ⟨b, off, cap', x, hv, hbl, hx, e0⟩ := HN0.out.at hlt2
          cases hv
          have HT : Hid ((ns.take (q + 1)).all (fun n => inI n 0 9) = inI x 0 9) := by show _ = _; rw [fig_take hx, HQ.out, Bool.true_and]
          cases hb : inI x 0 9 with
          | false =>
            have HX : Hid _ := hb
            have HF : Hid (patOk (s, ns) = false) := by show _ = _; rw [HP.out, fig_bad hx hb]; simp
            clear hx hb
            go_wp2_with (go_at_call 22; refine (l1InI_any _ _ _ _).mono ?_; rintro e w' ⟨he, hw⟩; have hw2 := hw.symm; clear hw; subst hw2; rw [HX.out] at he; subst he)
            go_ret
            exact ⟨ret_bool (by rw [HF.out]), HB0.out⟩
          | true =>
            have HX : Hid _ := hb
            clear hx hb
            go_wp2_with (go_at_call 22; refine (l1InI_any _ _ _ _).mono ?_; rintro e w' ⟨he, hw⟩; have hw2 := hw.symm; clear hw; subst hw2; rw [HX.out] at he; subst he)
            go_round
            case rel => exact ⟨q + 1, by omega, by go_num, by rw [HT.out, HX.out]⟩
            case measure => simp [intOf]; omega
        · have HFIG : Hid (figT ns = true) := by
            show figT ns = true
            have h := HQ.out
            rw [List.take_of_length_le (by omega)] at h
            exact h
          cases hb : inI (s.size : Int) 1 8 with
          | false =>
            have HX : Hid _ := hb
            have HF : Hid (patOk (s, ns) = false) := by
              show _ = _
              unfold inI at hb
              rw [HP.out]
              simp only [Bool.and_eq_false_iff, decide_eq_false_iff_not] at hb ⊢
              rcases hb with hb | hb
              · exact .inl (by omega)
              · exact .inr (.inl (by omega))
            clear hb
            go_wp2_with (go_at_call 22; refine (l1InI_any _ _ _ _).mono ?_; rintro e w' ⟨he, hw⟩; have hw2 := hw.symm; clear hw; subst hw2; rw [HX.out] at he; subst he)
            go_ret
            exact ⟨ret_bool (by rw [HF.out]), HB0.out⟩
          | true =>
            have HX : Hid _ := hb
            have HF : Hid (patOk (s, ns) = decide (ns.length = s.size + 1)) := by
              show _ = _
              unfold inI at hb
              simp only [Bool.and_eq_true, decide_eq_true_eq] at hb
              rw [HP.out, HMID.out, HFIG.out, decide_eq_true (by omega : 1 ≤ s.size), decide_eq_true (by omega : s.size ≤ 8)]; simp
            have hs8 : (s.size : Int) ≤ 8 := by unfold inI at hb; simp only [Bool.and_eq_true, decide_eq_true_eq] at hb; exact hb.2
            clear hb
            by_cases hl : (ns.length : Int) = (s.size : Int) + 1
            · go_wp2_with (go_at_call 22; refine (l1InI_any _ _ _ _).mono ?_; rintro e w' ⟨he, hw⟩; have hw2 := hw.symm; clear hw; subst hw2; rw [HX.out] at he; subst he)
              go_ret
              exact ⟨ret_bool (by rw [HF.out, decide_eq_true (by omega)]), HB0.out⟩
            · have hl2 : ((ns.length : Int) == (s.size : Int) + 1) = false := by simpa using hl
              go_wp2_with (go_at_call 22; refine (l1InI_any _ _ _ _).mono ?_; rintro e w' ⟨he, hw⟩; have hw2 := hw.symm; clear hw; subst hw2; rw [HX.out] at he; subst he)
              go_ret
              exact ⟨ret_bool (by rw [HF.out, decide_eq_false (by omega)]), HB0.out⟩
end Go.Proofs.Ytehpdlokacdifaa
