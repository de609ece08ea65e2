/-
  MachineAll and MachineBegins of both.
-/
import Derived.Test.YtbkjbkdmanaohaaGW411
import Derived.Test.YtbkjbkdmanaohaaGW93
import Derived.Test.YtbkjbkdmanaohaaGW56
import Derived.Test.YtbkjbkdmanaohaaW120
namespace Go.Proofs.Ytbkjbkdmanaohaa
open Go.RowKit
set_option linter.unusedVariables false
theorem textsOwn412 {lo : Nat} {w : World} {v : Value} {xs : List ByteArray} (h : w.ownsRow lo 9 1 v xs.length (texts xs)) (hf : ∀ (i : Nat) (x : ByteArray), xs[i]? = some x → x.size ≤ maxLen) : TextsOwn lo w v xs := by
  have hr := rowOwn_of_owns (C := fun f => ∀ (i : Nat) (x : ByteArray), xs[i]? = some x → f i = .string x) h (fun f hf i x hx => hf i _ (by simp [texts, hx]))
  obtain ⟨a, cap, hv, hc, hm, hh⟩ := hr
  refine ⟨a, cap, hv, hc, hm, hf, fun hn => ?_⟩
  obtain ⟨g, m, f, ha, hl, _, hle, hrow, hx⟩ := hh (fun e => hn (List.length_eq_zero_iff.1 e))
  exact ⟨g, m, f, ha, hl, by omega, hrow, hx⟩
theorem TextsOwn.low412 {lo lo' : Nat} {w : World} {v : Value} {xs : List ByteArray} (h : TextsOwn lo w v xs) (hl : lo' ≤ lo) : TextsOwn lo' w v xs := by
  obtain ⟨a, cap, hv, hc, hm, hf, hh⟩ := h
  refine ⟨a, cap, hv, hc, hm, hf, fun hn => ?_⟩
  obtain ⟨g, m, f, ha, h1, h2, h3, h4⟩ := hh hn
  exact ⟨g, m, f, ha, Nat.le_trans hl h1, h2, h3, h4⟩
theorem nilTexts412 (lo : Nat) (w : World) : TextsOwn lo w (.slice none 0 0) [] := ⟨none, 0, rfl, Nat.le_refl _, Nat.zero_le _, fun i x hx => by simp at hx, fun hn => absurd rfl hn⟩
theorem noTexts412 (lo : Nat) (w : World) (a : Option Addr) : TextsOwn lo w (.slice a 0 0) [] := ⟨a, 0, rfl, Nat.le_refl _, Nat.zero_le _, fun i x hx => by simp at hx, fun hn => absurd rfl hn⟩
/-- All texts of a machine, if they are at most so many. -/
def malOk (ss : List Sta) (most : Int) : Bool := decide (0 ≤ most) && (decide (most ≤ 300) && (machT ss && (!endsT ss 0 && decide ((txT ss 0 ⟨#[]⟩).length ≤ most.toNat))))
def malT (ss : List Sta) (most : Int) : List ByteArray := if malOk ss most then txT ss 0 ⟨#[]⟩ else []
theorem malT_small (ss : List Sta) (most : Int) : (malT ss most).length ≤ 1048576 := by
  unfold malT
  split
  · next h =>
    unfold malOk at h
    simp only [Bool.and_eq_true, decide_eq_true_eq] at h
    omega
  · simp
/-- The first so many texts that begin so. -/
def mbT (ss : List Sta) (ah : ByteArray) (most : Int) : List ByteArray :=
  if decide (0 ≤ most) && (decide (most ≤ 40) && (machT ss && decide (0 ≤ runT ss ah.data.toList 0))) then (txT ss (runT ss ah.data.toList 0).toNat ah).take most.toNat else []
theorem mbT_small (ss : List Sta) (ah : ByteArray) (most : Int) : (mbT ss ah most).length ≤ 1048576 := by
  unfold mbT
  split
  · next h =>
    simp only [Bool.and_eq_true, decide_eq_true_eq] at h
    rw [List.length_take]
    omega
  · simp
theorem TextsAt.take412 {w : World} {b off n cap : Nat} {xs : List ByteArray} (h : TextsAt w (.slice (some ⟨b, off, none⟩) n cap) xs) {k : Nat} (hk : k ≤ xs.length) : TextsAt w (.slice (some ⟨b, off, none⟩) k cap) (xs.take k) := by
  obtain ⟨a, cap', hv, hc, hm, hf, hh⟩ := h
  cases hv
  have hl : (xs.take k).length = k := by simp [List.length_take]; omega
  refine ⟨some ⟨b, off, none⟩, cap, by rw [hl], by omega, by omega, fun i x hx => hf i x ?_, fun hn => ?_⟩
  · have hi : i < k := by have := (List.getElem?_eq_some_iff.1 hx).1; omega
    rwa [List.getElem?_take_of_lt hi] at hx
  · have h1 : xs ≠ [] := by rintro rfl; simp at hn
    obtain ⟨b', off', ha, h2, h3⟩ := hh h1
    cases ha
    refine ⟨b, off, rfl, h2, fun i x hx => h3 i x ?_⟩
    have hi : i < k := by have := (List.getElem?_eq_some_iff.1 hx).1; omega
    rwa [List.getElem?_take_of_lt hi] at hx
theorem empty_size : (⟨#[]⟩ : ByteArray).size = 0 := rfl
set_option maxHeartbeats 2000000 in
theorem implMachineAll_any (w : World) (v : Value) (ss : List Sta)  (most : Int) (h : StatesAt w v ss) :
    Calls Try.prog 20 #[v, .int .i64 most] w fun e w' => ∃ v', e = .returned (.tuple #[v', .bool (malOk ss most)]) ∧ TextsOwn w.heap.size w' v' (malT ss most) ∧ Below w.heap.size w w' := by
  obtain ⟨a, cap, rfl, hc, hm⟩ := h.form
  have HS : Hid (StatesAt w (.slice a ss.length cap) ss) := h
  clear h
  by_cases h0 : most < 0
  · have HK : Hid (malOk ss most = false) := by show _ = _; unfold malOk; rw [decide_eq_false (by omega : ¬ 0 ≤ most)]; rfl
    have HM : Hid (malT ss most = []) := by show _ = _; unfold malT; rw [HK.out]; rfl
    go_enter Try.func20, Try.ntmps20
    go_wp2
    refine bodyPost_ret (v := .tuple #[.slice none 0 0, .bool false]) (by simp [results, Try.results20, go_sem]) rfl ⟨_, by rw [HK.out], by rw [HM.out]; exact nilTexts412 _ _, Below.refl _ _⟩
  · by_cases h3 : 300 < most
    · have HK : Hid (malOk ss most = false) := by show _ = _; unfold malOk; rw [decide_eq_false (by omega : ¬ most ≤ 300)]; simp
      have HM : Hid (malT ss most = []) := by show _ = _; unfold malT; rw [HK.out]; rfl
      go_enter Try.func20, Try.ntmps20
      go_wp2
      refine bodyPost_ret (v := .tuple #[.slice none 0 0, .bool false]) (by simp [results, Try.results20, go_sem]) rfl ⟨_, by rw [HK.out], by rw [HM.out]; exact nilTexts412 _ _, Below.refl _ _⟩
    · obtain ⟨M, rfl⟩ : ∃ M : Nat, most = (M : Int) := ⟨most.toNat, by omega⟩
      have hM : M ≤ 300 := by omega
      cases hmt : machT ss with
      | false =>
        have HK : Hid (malOk ss M = false) := by show _ = _; unfold malOk; rw [hmt]; simp
        have HM : Hid (malT ss M = []) := by show _ = _; unfold malT; rw [HK.out]; rfl
        go_enter Try.func20, Try.ntmps20
        go_wp2_with fail
        refine (implMachineOk_any _ _ ss HS.out).mono ?_
        rintro e w1 ⟨rfl, hb1⟩
        rw [hmt]
        have HB1 : Hid (Below w.heap.size w w1) := hb1
        clear hb1
        go_wp2
        refine bodyPost_ret (v := .tuple #[.slice none 0 0, .bool false]) (by simp [results, Try.results20, go_sem]) rfl ⟨_, by rw [HK.out], by rw [HM.out]; exact nilTexts412 _ _, HB1.out⟩
      | true =>
        obtain ⟨hok, h1, h4⟩ := machT_parts hmt
        have HO : Hid (stasOk ss = true) := hok
        obtain ⟨b', off, cap', st, ev, hv, _, hsm, hbl, hst, c1, c2, hev⟩ := HS.out.at (k := 0) (by omega)
        cases hv
        rw [Nat.zero_mul, Nat.add_zero] at c1
        have hE : endsT ss 0 = st.ends := endsT_at hst
        have hl0 : (0 : Int) < ss.length := by omega
        clear hok hev c2 hst
        cases hEn : st.ends with
        | true =>
          have HK : Hid (malOk ss M = false) := by show _ = _; unfold malOk; rw [hE, hEn]; simp
          have HM : Hid (malT ss M = []) := by show _ = _; unfold malT; rw [HK.out]; rfl
          go_enter Try.func20, Try.ntmps20
          go_wp2_with fail
          refine (implMachineOk_any _ _ ss HS.out).mono ?_
          rintro e w1 ⟨rfl, hb1⟩
          rw [hmt]
          have HB1 : Hid (Below w.heap.size w w1) := hb1
          have x1 : w1.cell? ⟨b', off, none⟩ = some (.bool true) := by rw [← hEn]; exact (hb1.cell (p := ⟨b', off, none⟩) hbl).trans c1
          clear hb1 c1
          go_wp2
          refine bodyPost_ret (v := .tuple #[.slice none 0 0, .bool false]) (by simp [results, Try.results20, go_sem]) rfl ⟨_, by rw [HK.out], by rw [HM.out]; exact nilTexts412 _ _, HB1.out⟩
        | false =>
          have HC : Hid (cTab ss 0 > (M : Int) ↔ M < (txT ss 0 ⟨#[]⟩).length) := cTab_more HO.out h1 _ (by omega)
          have HX : Hid (malOk ss M = decide ((txT ss 0 ⟨#[]⟩).length ≤ M)) := by show _ = _; unfold malOk; rw [hE, hEn, hmt, decide_eq_true (by omega : (0 : Int) ≤ (M : Int)), decide_eq_true (by omega : (M : Int) ≤ 300)]; simp
          go_enter Try.func20, Try.ntmps20
          go_wp2_with fail
          refine (implMachineOk_any _ _ ss HS.out).mono ?_
          rintro e w1 ⟨rfl, hb1⟩
          rw [hmt]
          have HB1 : Hid (Below w.heap.size w w1) := hb1
          have x1 : w1.cell? ⟨b', off, none⟩ = some (.bool false) := by rw [← hEn]; exact (hb1.cell (p := ⟨b', off, none⟩) hbl).trans c1
          clear hb1 c1
          go_wp2_with fail
          refine (counts_any _ _ ss (HS.out.below HB1.out) HO.out h1 h4).mono ?_
          rintro e w2 ⟨rfl, hr2, hb2⟩
          have HB2 : Hid (Below w.heap.size w w2) := HB1.out.trans (hb2.mono HB1.out.size)
          have d0 : w2.cell? ⟨w1.heap.size, 0, none⟩ = some (.int .i64 (cTab ss 0)) := hr2.cell (i := 0) (by omega)
          clear hb2 hr2 x1
          by_cases hgt : (M : Int) < cTab ss 0
          · have HK : Hid (malOk ss M = false) := by show _ = _; rw [HX.out]; exact decide_eq_false (by have := HC.out.1 hgt; omega)
            have HM : Hid (malT ss M = []) := by show _ = _; unfold malT; rw [HK.out]; rfl
            go_wp2
            refine bodyPost_ret (v := .tuple #[.slice none 0 0, .bool false]) (by simp [results, Try.results20, go_sem]) rfl ⟨_, by rw [HK.out], by rw [HM.out]; exact nilTexts412 _ _, HB2.out⟩
          · have hle : (txT ss 0 ⟨#[]⟩).length ≤ M := by rcases Nat.lt_or_ge M (txT ss 0 ⟨#[]⟩).length with h | h; exact absurd (HC.out.2 h) hgt; exact h
            have HK : Hid (malOk ss M = true) := by show _ = _; rw [HX.out]; exact decide_eq_true hle
            have HM : Hid (malT ss M = (txT ss 0 ⟨#[]⟩).take M) := by show _ = _; unfold malT; rw [HK.out, if_pos rfl, List.take_of_length_le hle]
            have HFT := txT_fit ss 0 M ⟨#[]⟩ (by rw [empty_size]; unfold maxLen; omega)
            have HFIT : Hid (∀ (i : Nat) (x : ByteArray), ((txT ss 0 ⟨#[]⟩).take M)[i]? = some x → x.size ≤ maxLen) := HFT
            have HCL : Hid (∀ w', StatesAt w' (.slice (some ⟨b', off, none⟩) ss.length cap) ss → Calls Try.prog 40 #[.slice (some ⟨b', off, none⟩) ss.length cap, .int .i64 0, .string ⟨#[]⟩, .int .i64 M] w' fun e w'' => ∃ v', e = .returned v' ∧ w''.ownsRow w'.heap.size 9 1 v' ((txT ss 0 ⟨#[]⟩).take M).length (texts ((txT ss 0 ⟨#[]⟩).take M)) ∧ Below w'.heap.size w' w'') := fun w' hs => textsFrom_any ss HO.out ss.length 0 (by omega) (by omega) w' _ ⟨#[]⟩ M hs (by rw [empty_size]; omega) (by omega)
            clear hle HFT
            go_wp2_with fail
            refine (HCL.out _ (HS.out.below HB2.out)).mono ?_
            rintro e w3 ⟨v3, rfl, ho3, hb3⟩
            have HT : Hid (TextsOwn w.heap.size w3 v3 (malT ss M)) := by show TextsOwn _ _ _ _; rw [HM.out]; exact (textsOwn412 ho3 HFIT.out).low412 HB2.out.size
            have HB3 : Hid (Below w.heap.size w w3) := HB2.out.trans (hb3.mono HB2.out.size)
            clear ho3 hb3
            go_wp2
            refine bodyPost_ret (v := .tuple #[v3, .bool true]) (by simp [results, Try.results20, go_sem]) rfl ⟨_, by rw [HK.out], HT.out, HB3.out⟩
set_option maxHeartbeats 2000000 in
theorem specMachineAll_any (w : World) (v : Value) (ss : List Sta)  (most : Int) (h : StatesAt w v ss) :
    Calls Try.prog 19 #[v, .int .i64 most] w fun e w' => ∃ v', e = .returned (.tuple #[v', .bool (malOk ss most)]) ∧ TextsAt w' v' (malT ss most) ∧ Below w.heap.size w w' := by
  obtain ⟨a, cap, rfl, hc, hm⟩ := h.form
  have HS : Hid (StatesAt w (.slice a ss.length cap) ss) := h
  clear h
  cases hmt : machT ss with
  | false =>
    have HK : Hid (malOk ss most = false) := by show _ = _; unfold malOk; rw [hmt]; simp
    have HM : Hid (malT ss most = []) := by show _ = _; unfold malT; rw [HK.out]; rfl
    go_enter Try.func19, Try.ntmps19
    go_wp2_with fail
    refine (specMachineOk_any _ _ ss HS.out).mono ?_
    rintro e w1 ⟨rfl, hb1⟩
    rw [hmt]
    have HB1 : Hid (Below w.heap.size w w1) := hb1
    clear hb1
    go_wp2
    refine bodyPost_ret (v := .tuple #[.slice (some ⟨w1.heap.size, 0, none⟩) 0 0, .bool false]) (by simp [results, Try.results19, go_sem]) rfl ⟨_, by rw [HK.out], by rw [HM.out]; exact (noTexts412 0 _ _).at, HB1.out.alloc HB1.out.size _⟩
  | true =>
    obtain ⟨hok, h1, h4⟩ := machT_parts hmt
    have HO : Hid (stasOk ss = true) := hok
    obtain ⟨b', off, cap', st, ev, hv, _, hsm, hbl, hst, c1, c2, hev⟩ := HS.out.at (k := 0) (by omega)
    cases hv
    rw [Nat.zero_mul, Nat.add_zero] at c1
    have hE : endsT ss 0 = st.ends := endsT_at hst
    have hl0 : (0 : Int) < ss.length := by omega
    clear hok hev c2 hst
    cases hEn : st.ends with
    | true =>
      have HK : Hid (malOk ss most = false) := by show _ = _; unfold malOk; rw [hE, hEn]; simp
      have HM : Hid (malT ss most = []) := by show _ = _; unfold malT; rw [HK.out]; rfl
      go_enter Try.func19, Try.ntmps19
      go_wp2_with fail
      refine (specMachineOk_any _ _ ss HS.out).mono ?_
      rintro e w1 ⟨rfl, hb1⟩
      rw [hmt]
      have HB1 : Hid (Below w.heap.size w w1) := hb1
      have x1 : w1.cell? ⟨b', off, none⟩ = some (.bool true) := by rw [← hEn]; exact (hb1.cell (p := ⟨b', off, none⟩) hbl).trans c1
      clear hb1 c1
      go_wp2
      refine bodyPost_ret (v := .tuple #[.slice (some ⟨w1.heap.size, 0, none⟩) 0 0, .bool false]) (by simp [results, Try.results19, go_sem]) rfl ⟨_, by rw [HK.out], by rw [HM.out]; exact (noTexts412 0 _ _).at, HB1.out.alloc HB1.out.size _⟩
    | false =>
      cases hin : inT most 0 300 with
      | false =>
        have HK : Hid (malOk ss most = false) := by
          show _ = _
          unfold inT at hin
          unfold malOk
          rw [← Bool.and_assoc, hin]; rfl
        have HM : Hid (malT ss most = []) := by show _ = _; unfold malT; rw [HK.out]; rfl
        go_enter Try.func19, Try.ntmps19
        go_wp2_with fail
        refine (specMachineOk_any _ _ ss HS.out).mono ?_
        rintro e w1 ⟨rfl, hb1⟩
        rw [hmt]
        have HB1 : Hid (Below w.heap.size w w1) := hb1
        have x1 : w1.cell? ⟨b', off, none⟩ = some (.bool false) := by rw [← hEn]; exact (hb1.cell (p := ⟨b', off, none⟩) hbl).trans c1
        clear hb1 c1
        go_wp2_with (go_at_call 37; refine (l1In_is hin _).mono ?_; rintro e w' ⟨rfl, he⟩; rw [he]; clear he)
        refine bodyPost_ret (v := .tuple #[.slice (some ⟨w1.heap.size, 0, none⟩) 0 0, .bool false]) (by simp [results, Try.results19, go_sem]) rfl ⟨_, by rw [HK.out], by rw [HM.out]; exact (noTexts412 0 _ _).at, HB1.out.alloc HB1.out.size _⟩
      | true =>
        have hM3 : 0 ≤ most ∧ most ≤ 300 := by unfold inT at hin; simpa using hin
        obtain ⟨M, rfl⟩ : ∃ M : Nat, most = (M : Int) := ⟨most.toNat, by omega⟩
        have hM : M ≤ 300 := by omega
        have HX : Hid (malOk ss M = decide ((txT ss 0 ⟨#[]⟩).length ≤ M)) := by show _ = _; unfold malOk; rw [hE, hEn, hmt, decide_eq_true (by omega : (0 : Int) ≤ (M : Int)), decide_eq_true (by omega : (M : Int) ≤ 300)]; simp
        have HFIT : Hid (∀ (i : Nat) (x : ByteArray), ((txT ss 0 ⟨#[]⟩).take (M + 1))[i]? = some x → x.size ≤ maxLen) := txT_fit ss 0 (M + 1) ⟨#[]⟩ (by rw [empty_size]; unfold maxLen; omega)
        have HCL : Hid (∀ w', StatesAt w' (.slice (some ⟨b', off, none⟩) ss.length cap) ss → Calls Try.prog 38 #[.slice (some ⟨b', off, none⟩) ss.length cap, .int .i64 0, .string ⟨#[]⟩, .int .i64 M] w' fun e w'' => ∃ v', e = .returned v' ∧ w''.ownsRow w'.heap.size 9 1 v' ((txT ss 0 ⟨#[]⟩).take (M + 1)).length (texts ((txT ss 0 ⟨#[]⟩).take (M + 1))) ∧ Below w'.heap.size w' w'') := fun w' hs => l12All_any ss HO.out ss.length 0 (by omega) (by omega) w' _ ⟨#[]⟩ M hs (by rw [empty_size]; omega) (by omega)
        obtain ⟨R, hR⟩ : ∃ X, (txT ss 0 ⟨#[]⟩).take (M + 1) = X := ⟨_, rfl⟩
        have hRl : R.length = min (M + 1) (txT ss 0 ⟨#[]⟩).length := by rw [← hR, List.length_take]
        have HMR : Hid (R.length ≤ M → malOk ss M = true ∧ malT ss M = R) := fun h => by
          have hk : malOk ss M = true := by rw [HX.out]; exact decide_eq_true (by omega)
          refine ⟨hk, ?_⟩
          unfold malT
          rw [hk, if_pos rfl, ← hR, List.take_of_length_le (by omega)]
        have HMN : Hid (¬ R.length ≤ M → malOk ss M = false) := fun h => by rw [HX.out]; exact decide_eq_false (by omega)
        have HRL : Hid (R.length ≤ 301) := by show _ ≤ _; omega
        rw [hR] at HCL HFIT
        clear hR hRl hE
        go_enter Try.func19, Try.ntmps19
        go_wp2_with fail
        refine (specMachineOk_any _ _ ss HS.out).mono ?_
        rintro e w1 ⟨rfl, hb1⟩
        rw [hmt]
        have HB1 : Hid (Below w.heap.size w w1) := hb1
        have x1 : w1.cell? ⟨b', off, none⟩ = some (.bool false) := by rw [← hEn]; exact (hb1.cell (p := ⟨b', off, none⟩) hbl).trans c1
        clear hb1 c1
        go_wp2_with (first | (go_at_call 37; refine (l1In_is hin _).mono ?_; rintro e w' ⟨rfl, he⟩; rw [he]; clear he) | fail)
        refine (HCL.out _ (HS.out.below HB1.out)).mono ?_
        rintro e w3 ⟨v3, rfl, ho3, hb3⟩
        have HT : Hid (TextsAt w3 v3 R) := (textsOwn412 ho3 HFIT.out).at
        have HB3 : Hid (Below w.heap.size w w3) := HB1.out.trans (hb3.mono HB1.out.size)
        obtain ⟨a3, c3, rfl⟩ := owns_form ho3
        clear ho3 hb3 x1
        have hr301 : R.length ≤ 301 := HRL.out
        by_cases hgt : (M : Int) < R.length
        · have HK : Hid (malOk ss M = false) := HMN.out (by omega)
          have HM : Hid (malT ss M = []) := by show _ = _; unfold malT; rw [HK.out]; rfl
          go_wp2
          refine bodyPost_ret (v := .tuple #[.slice (some ⟨w3.heap.size, 0, none⟩) 0 0, .bool false]) (by simp [results, Try.results19, go_sem]) rfl ⟨_, by rw [HK.out], by rw [HM.out]; exact (noTexts412 0 _ _).at, HB3.out.alloc HB3.out.size _⟩
        · obtain ⟨hk, hmr⟩ := HMR.out (by omega)
          have HK : Hid (malOk ss M = true) := hk
          have HM : Hid (malT ss M = R) := hmr
          clear hk hmr
          go_wp2
          refine bodyPost_ret (v := .tuple #[.slice a3 R.length c3, .bool true]) (by simp [results, Try.results19, go_sem]) rfl ⟨_, by rw [HK.out], by rw [HM.out]; exact HT.out, HB3.out⟩
set_option maxHeartbeats 2000000 in
theorem implMachineBegins_any (w : World) (v : Value) (ss : List Sta) (ah : ByteArray) (most : Int) (h : StatesAt w v ss) (hah : ah.size ≤ 1048576) :
    Calls Try.prog 22 #[v, .string ah, .int .i64 most] w fun e w' => ∃ v', e = .returned v' ∧ TextsOwn w.heap.size w' v' (mbT ss ah most) ∧ Below w.heap.size w w' := by
  obtain ⟨a, cap, rfl, hc, hm⟩ := h.form
  have HS : Hid (StatesAt w (.slice a ss.length cap) ss) := h
  have HAH : Hid (ah.size ≤ maxLen) := by show _ ≤ _; unfold maxLen; omega
  clear h
  by_cases h0 : most < 0
  · have HM : Hid (mbT ss ah most = []) := by show _ = _; unfold mbT; rw [decide_eq_false (by omega : ¬ 0 ≤ most)]; rfl
    go_enter Try.func22, Try.ntmps22
    go_wp2
    go_ret
    exact ⟨_, rfl, by rw [HM.out]; exact nilTexts412 _ _, Below.refl _ _⟩
  · by_cases h3 : 40 < most
    · have HM : Hid (mbT ss ah most = []) := by show _ = _; unfold mbT; rw [decide_eq_false (by omega : ¬ most ≤ 40)]; simp
      go_enter Try.func22, Try.ntmps22
      go_wp2
      go_ret
      exact ⟨_, rfl, by rw [HM.out]; exact nilTexts412 _ _, Below.refl _ _⟩
    · obtain ⟨M, rfl⟩ : ∃ M : Nat, most = (M : Int) := ⟨most.toNat, by omega⟩
      have hM : M ≤ 40 := by omega
      cases hmt : machT ss with
      | false =>
        have HM : Hid (mbT ss ah M = []) := by show _ = _; unfold mbT; rw [hmt]; simp
        go_enter Try.func22, Try.ntmps22
        go_wp2_with fail
        refine (implMachineOk_any _ _ ss HS.out).mono ?_
        rintro e w1 ⟨rfl, hb1⟩
        rw [hmt]
        have HB1 : Hid (Below w.heap.size w w1) := hb1
        clear hb1
        go_wp2
        go_ret
        exact ⟨_, rfl, by rw [HM.out]; exact nilTexts412 _ _, HB1.out⟩
      | true =>
        obtain ⟨hok, h1, h4⟩ := machT_parts hmt
        have HO : Hid (stasOk ss = true) := hok
        have HP : Hid (placeOk ss (runT ss ah.data.toList 0)) := runT_ok hok _ _ (.inr ⟨0, rfl, h1⟩)
        have HX : Hid (mbT ss ah M = if decide (0 ≤ runT ss ah.data.toList 0) then (txT ss (runT ss ah.data.toList 0).toNat ah).take M else []) := by show _ = _; unfold mbT; rw [hmt, decide_eq_true (by omega : (0 : Int) ≤ (M : Int)), decide_eq_true (by omega : (M : Int) ≤ 40)]; simp
        have HC : Hid (∀ (w : World) (v : Value), StatesAt w v ss → Calls Try.prog 41 #[v, .string ah] w fun e w' => e = .returned (.int .i64 (runT ss ah.data.toList 0)) ∧ Below w.heap.size w w') := fun w v h => placeBehind_any w v ss ah h HO.out h1 HAH.out
        clear hok
        rcases HP.out with hneg | ⟨p, hp, hpl⟩
        · have HM : Hid (mbT ss ah M = []) := by show _ = _; rw [HX.out, hneg]; rfl
          rw [hneg] at HC
          clear hneg HP HX
          go_enter Try.func22, Try.ntmps22
          go_wp2_with fail
          refine (implMachineOk_any _ _ ss HS.out).mono ?_
          rintro e w1 ⟨rfl, hb1⟩
          rw [hmt]
          have HB1 : Hid (Below w.heap.size w w1) := hb1
          clear hb1
          go_wp2_with fail
          refine (HC.out _ _ (HS.out.below HB1.out)).mono ?_
          rintro e w2 ⟨rfl, hb2⟩
          have HB2 : Hid (Below w.heap.size w w2) := HB1.out.trans (hb2.mono HB1.out.size)
          clear hb2
          go_wp2
          go_ret
          exact ⟨_, rfl, by rw [HM.out]; exact nilTexts412 _ _, HB2.out⟩
        · have HM : Hid (mbT ss ah M = (txT ss p ah).take M) := by show _ = _; rw [HX.out, hp, decide_eq_true (by omega : (0 : Int) ≤ (p : Int)), if_pos rfl, Int.toNat_natCast]
          rw [hp] at HC
          have hp0 : ¬ ((p : Int) < 0) := by omega
          clear hp HP HX
          have HFIT : Hid (∀ (i : Nat) (x : ByteArray), ((txT ss p ah).take M)[i]? = some x → x.size ≤ maxLen) := txT_fit ss p M ah (by unfold maxLen; omega)
          have HCL : Hid (∀ w', StatesAt w' (.slice a ss.length cap) ss → Calls Try.prog 40 #[.slice a ss.length cap, .int .i64 p, .string ah, .int .i64 M] w' fun e w'' => ∃ v', e = .returned v' ∧ w''.ownsRow w'.heap.size 9 1 v' ((txT ss p ah).take M).length (texts ((txT ss p ah).take M)) ∧ Below w'.heap.size w' w'') := fun w' hs => textsFrom_any ss HO.out (ss.length - p) p rfl hpl w' _ ah M hs (by omega) (by omega)
          go_enter Try.func22, Try.ntmps22
          go_wp2_with fail
          refine (implMachineOk_any _ _ ss HS.out).mono ?_
          rintro e w1 ⟨rfl, hb1⟩
          rw [hmt]
          have HB1 : Hid (Below w.heap.size w w1) := hb1
          clear hb1
          go_wp2_with fail
          refine (HC.out _ _ (HS.out.below HB1.out)).mono ?_
          rintro e w2 ⟨rfl, hb2⟩
          have HB2 : Hid (Below w.heap.size w w2) := HB1.out.trans (hb2.mono HB1.out.size)
          clear hb2
          go_wp2_with fail
          refine (HCL.out _ (HS.out.below HB2.out)).mono ?_
          rintro e w3 ⟨v3, rfl, ho3, hb3⟩
          have HT : Hid (TextsOwn w.heap.size w3 v3 (mbT ss ah M)) := by show TextsOwn _ _ _ _; rw [HM.out]; exact (textsOwn412 ho3 HFIT.out).low412 HB2.out.size
          have HB3 : Hid (Below w.heap.size w w3) := HB2.out.trans (hb3.mono HB2.out.size)
          clear ho3 hb3
          go_wp2
          go_ret
          exact ⟨_, rfl, HT.out, HB3.out⟩
set_option maxHeartbeats 2000000 in
theorem specMachineBegins_any (w : World) (v : Value) (ss : List Sta) (ah : ByteArray) (most : Int) (h : StatesAt w v ss) (hah : ah.size ≤ 1048576) :
    Calls Try.prog 21 #[v, .string ah, .int .i64 most] w fun e w' => ∃ v', e = .returned v' ∧ TextsAt w' v' (mbT ss ah most) ∧ Below w.heap.size w w' := by
  obtain ⟨a, cap, rfl, hc, hm⟩ := h.form
  have HS : Hid (StatesAt w (.slice a ss.length cap) ss) := h
  have HAH : Hid (ah.size ≤ maxLen) := by show _ ≤ _; unfold maxLen; omega
  clear h
  have HX0 : Hid (Below w.heap.size w (w.alloc (.cells #[] 9))) := (Below.refl _ _).alloc (Nat.le_refl _) _
  cases hmt : machT ss with
  | false =>
    have HM : Hid (mbT ss ah most = []) := by show _ = _; unfold mbT; rw [hmt]; simp
    go_enter Try.func21, Try.ntmps21
    go_wp2_with fail
    refine (specMachineOk_any _ _ ss (HS.out.below HX0.out)).mono ?_
    rintro e w1 ⟨rfl, hb1⟩
    rw [hmt]
    have HB1 : Hid (Below w.heap.size w w1) := HX0.out.trans (hb1.mono HX0.out.size)
    clear hb1
    go_wp2
    go_ret
    exact ⟨_, rfl, by rw [HM.out]; exact (noTexts412 0 _ _).at, HB1.out⟩
  | true =>
    obtain ⟨hok, h1, h4⟩ := machT_parts hmt
    have HO : Hid (stasOk ss = true) := hok
    cases hin : inT most 0 40 with
    | false =>
      have HM : Hid (mbT ss ah most = []) := by show _ = _; unfold inT at hin; unfold mbT; rw [← Bool.and_assoc, hin]; rfl
      clear hok
      go_enter Try.func21, Try.ntmps21
      go_wp2_with fail
      refine (specMachineOk_any _ _ ss (HS.out.below HX0.out)).mono ?_
      rintro e w1 ⟨rfl, hb1⟩
      rw [hmt]
      have HB1 : Hid (Below w.heap.size w w1) := HX0.out.trans (hb1.mono HX0.out.size)
      clear hb1
      go_wp2_with (go_at_call 37; refine (l1In_is hin _).mono ?_; rintro e w' ⟨rfl, he⟩; rw [he]; clear he)
      go_ret
      exact ⟨_, rfl, by rw [HM.out]; exact (noTexts412 0 _ _).at, HB1.out⟩
    | true =>
      have hM3 : 0 ≤ most ∧ most ≤ 40 := by unfold inT at hin; simpa using hin
      obtain ⟨M, rfl⟩ : ∃ M : Nat, most = (M : Int) := ⟨most.toNat, by omega⟩
      have hM : M ≤ 40 := by omega
      have HP : Hid (placeOk ss (runT ss ah.data.toList 0)) := runT_ok hok _ _ (.inr ⟨0, rfl, h1⟩)
      have HX : Hid (mbT ss ah M = if decide (0 ≤ runT ss ah.data.toList 0) then (txT ss (runT ss ah.data.toList 0).toNat ah).take M else []) := by show _ = _; unfold mbT; rw [hmt, decide_eq_true (by omega : (0 : Int) ≤ (M : Int)), decide_eq_true (by omega : (M : Int) ≤ 40)]; simp
      have HC : Hid (∀ (w : World) (v : Value), StatesAt w v ss → Calls Try.prog 27 #[v, .string ah] w fun e w' => e = .returned (.int .i64 (runT ss ah.data.toList 0)) ∧ Below w.heap.size w w') := fun w v h => l3Go_any w v ss ah h HO.out h1 HAH.out
      clear hok hM3
      rcases HP.out with hneg | ⟨p, hp, hpl⟩
      · have HM : Hid (mbT ss ah M = []) := by show _ = _; rw [HX.out, hneg]; rfl
        rw [hneg] at HC
        clear hneg HP HX
        go_enter Try.func21, Try.ntmps21
        go_wp2_with fail
        refine (specMachineOk_any _ _ ss (HS.out.below HX0.out)).mono ?_
        rintro e w1 ⟨rfl, hb1⟩
        rw [hmt]
        have HB1 : Hid (Below w.heap.size w w1) := HX0.out.trans (hb1.mono HX0.out.size)
        clear hb1
        go_wp2_with (go_at_call 37; refine (l1In_is hin _).mono ?_; rintro e w' ⟨rfl, he⟩; rw [he]; clear he)
        refine (HC.out _ _ (HS.out.below HB1.out)).mono ?_
        rintro e w2 ⟨rfl, hb2⟩
        have HB2 : Hid (Below w.heap.size w w2) := HB1.out.trans (hb2.mono HB1.out.size)
        clear hb2
        go_wp2
        go_ret
        exact ⟨_, rfl, by rw [HM.out]; exact (noTexts412 0 _ _).at, HB2.out⟩
      · have HM : Hid (mbT ss ah M = (txT ss p ah).take M) := by show _ = _; rw [HX.out, hp, decide_eq_true (by omega : (0 : Int) ≤ (p : Int)), if_pos rfl, Int.toNat_natCast]
        rw [hp] at HC
        have hp0 : ¬ ((p : Int) < 0) := by omega
        clear hp HP HX
        have HFIT : Hid (∀ (i : Nat) (x : ByteArray), ((txT ss p ah).take (M + 1))[i]? = some x → x.size ≤ maxLen) := txT_fit ss p (M + 1) ah (by unfold maxLen; omega)
        have HCL : Hid (∀ w', StatesAt w' (.slice a ss.length cap) ss → Calls Try.prog 38 #[.slice a ss.length cap, .int .i64 p, .string ah, .int .i64 M] w' fun e w'' => ∃ v', e = .returned v' ∧ w''.ownsRow w'.heap.size 9 1 v' ((txT ss p ah).take (M + 1)).length (texts ((txT ss p ah).take (M + 1))) ∧ Below w'.heap.size w' w'') := fun w' hs => l12All_any ss HO.out (ss.length - p) p rfl hpl w' _ ah M hs (by omega) (by omega)
        obtain ⟨R, hR⟩ : ∃ X, (txT ss p ah).take (M + 1) = X := ⟨_, rfl⟩
        have HMT : Hid (mbT ss ah M = R.take M) := by show _ = _; rw [HM.out, ← hR, List.take_take]; congr 1; omega
        have HRL : Hid (R.length ≤ 41) := by show _ ≤ _; rw [← hR, List.length_take]; omega
        rw [hR] at HCL HFIT
        clear hR HM
        go_enter Try.func21, Try.ntmps21
        go_wp2_with fail
        refine (specMachineOk_any _ _ ss (HS.out.below HX0.out)).mono ?_
        rintro e w1 ⟨rfl, hb1⟩
        rw [hmt]
        have HB1 : Hid (Below w.heap.size w w1) := HX0.out.trans (hb1.mono HX0.out.size)
        clear hb1
        go_wp2_with (go_at_call 37; refine (l1In_is hin _).mono ?_; rintro e w' ⟨rfl, he⟩; rw [he]; clear he)
        refine (HC.out _ _ (HS.out.below HB1.out)).mono ?_
        rintro e w2 ⟨rfl, hb2⟩
        have HB2 : Hid (Below w.heap.size w w2) := HB1.out.trans (hb2.mono HB1.out.size)
        clear hb2
        go_wp2_with fail
        refine (HCL.out _ (HS.out.below HB2.out)).mono ?_
        rintro e w3 ⟨v3, rfl, ho3, hb3⟩
        have HT : Hid (TextsAt w3 v3 R) := (textsOwn412 ho3 HFIT.out).at
        have HB3 : Hid (Below w.heap.size w w3) := HB2.out.trans (hb3.mono HB2.out.size)
        obtain ⟨a3, c3, rfl⟩ := owns_form ho3
        have hcap := own_cap ho3
        clear ho3 hb3
        have hr41 : R.length ≤ 41 := HRL.out
        by_cases hgt : (M : Int) < R.length
        · obtain ⟨b5, off5, cap5, x5, hv5, -, -, -, -⟩ := HT.out.at (k := 0) (by omega)
          cases hv5
          have HT5 : Hid (TextsAt w3 (.slice (some ⟨b5, off5, none⟩) M c3) (R.take M)) := HT.out.take412 (by omega)
          have hmc : (M : Int) ≤ c3 := by omega
          go_wp2
          go_ret
          exact ⟨_, rfl, by rw [HMT.out]; exact HT5.out, HB3.out⟩
        · have HR2 : Hid (R.take M = R) := List.take_of_length_le (by omega)
          go_wp2
          go_ret
          exact ⟨_, rfl, by rw [HMT.out, HR2.out]; exact HT.out, HB3.out⟩
end Go.Proofs.Ytbkjbkdmanaohaa
/-
  The laws FnExactMachineAll and FnExactMachineBegins.
-/
namespace Go.Proofs.Ytbkjbkdmanaohaa
open Go.RowKit
set_option linter.unusedVariables false
theorem TextsOwn.wr413 {l hi : Nat} {w w' : World} {v : Value} {xs : List ByteArray} (h : TextsOwn hi w v xs) (hw : Wr l hi w w') : TextsOwn hi w' v xs := by
  obtain ⟨a, cap, hv, hc, hm, hf, hh⟩ := h
  refine ⟨a, cap, hv, hc, hm, hf, fun hn => ?_⟩
  obtain ⟨g, n, f, ha, hlo, hle, hr, hx⟩ := hh hn
  exact ⟨g, n, f, ha, hlo, hle, hr.of_block (hw.2.2.1 g hlo hr.lt), hx⟩
set_option maxHeartbeats 2000000 in
theorem fnExactMachineBegins_walk (v : Value) (ss : List Sta) (s : ByteArray) (n : Int) (w : World) (h : StatesAt w v ss) (hs : s.size ≤ maxLen) (hnw : (Lit.int .i64 n).wf = true) :
    Calls Try.prog 6 #[v, .string s, .int .i64 n] w fun e w' => e = .returned (.bool true) ∧ Below w.heap.size w w' := by
  obtain ⟨a, cap, rfl, hc, hm⟩ := h.form
  have HS : Hid (StatesAt w (.slice a ss.length cap) ss) := h
  clear h
  unfold maxLen at hs
  by_cases hsz : (s.size : Int) > 1048576
  · go_enter Try.func6, Try.ntmps6
    go_wp2
    go_ret
    exact ⟨rfl, Below.refl _ _⟩
  have hsz' : ¬ (1048576 : Int) < s.size := by omega
  have hsn : s.size ≤ 1048576 := by omega
  obtain ⟨L, hL⟩ : ∃ L, mbT ss s n = L := ⟨_, rfl⟩
  have hln : L.length ≤ 2000000000 := by rw [← hL]; exact Nat.le_trans (mbT_small ss s n) (by decide)
  have HSP : Hid (∀ (w : World) (v : Value), StatesAt w v ss → Calls Try.prog 21 #[v, .string s, .int .i64 n] w fun e w' => ∃ v', e = .returned v' ∧ TextsAt w' v' L ∧ Below w.heap.size w w') := fun w v h => by
    rw [← hL]
    exact specMachineBegins_any w v ss s n h hsn
  have HIM : Hid (∀ (w : World) (v : Value), StatesAt w v ss → Calls Try.prog 22 #[v, .string s, .int .i64 n] w fun e w' => ∃ v', e = .returned v' ∧ TextsOwn w.heap.size w' v' L ∧ Below w.heap.size w w') := fun w v h => by
    rw [← hL]
    exact implMachineBegins_any w v ss s n h hsn
  clear hL
  go_enter Try.func6, Try.ntmps6
  go_wp2_with fail
  refine (szStateS_any _ _ ss _ HS.out (by omega) (by omega)).mono ?_
  rintro e w1 ⟨⟨r, rfl, hr⟩, hb1⟩
  have HB1 : Hid (Below w.heap.size w w1) := hb1
  have HR : Hid (0 ≤ r → SmallS ss) := hr
  clear hb1 hr
  by_cases hr : r < 0
  · go_wp2
    go_ret
    exact ⟨rfl, HB1.out⟩
  · have HN : Hid (SmallS ss) := HR.out (by omega)
    have hnl := HN.out.1
    go_wp2_with fail
    refine (toStateS_any _ _ ss (HS.out.below HB1.out) HN.out).mono ?_
    rintro e w2 ⟨v2, rfl, h2, hb2⟩
    obtain ⟨a2, cap2, rfl, hc2, hm2⟩ := h2.form
    have HB2 : Hid (Below w.heap.size w w2) := HB1.out.trans (hb2.mono HB1.out.size)
    have H2 : Hid (StatesAt w2 (.slice a2 ss.length cap2) ss) := h2
    clear hb2 h2
    go_wp2_with fail
    refine (HSP.out _ _ H2.out).mono ?_
    rintro e w3 ⟨u0, rfl, h3, hb3⟩
    obtain ⟨ua, ucap, rfl, _, _⟩ := h3.form
    have HB3 : Hid (Below w.heap.size w w3) := HB2.out.trans (hb3.mono HB2.out.size)
    have U3 : Hid (TextsAt w3 (.slice ua L.length ucap) L) := h3
    clear hb3 h3
    go_wp2_with fail
    refine (toStateS_own _ _ ss (HS.out.below HB3.out) HN.out).mono ?_
    rintro e w4 ⟨v4, rfl, ⟨h4, hmk⟩, hb4⟩
    obtain ⟨a4, cap4, rfl, hc4, hm4⟩ := h4.form
    have HB4 : Hid (Below w.heap.size w w4) := HB3.out.trans (hb4.mono HB3.out.size)
    have H4 : Hid (StatesAt w4 (.slice a4 ss.length cap4) ss) := h4
    have M4 : Hid (MarkS w3.heap.size w4.heap.size w4 (.slice a4 ss.length cap4) ss.length) := hmk
    have B34 : Hid (Below w3.heap.size w3 w4) := hb4
    clear hb4 h4 hmk
    go_wp2_with fail
    refine (HIM.out _ _ H4.out).mono ?_
    rintro e w5 ⟨g0, rfl, h5, hb5⟩
    obtain ⟨ga, gcap, rfl, _, _⟩ := h5.at.form
    have HB5 : Hid (Below w.heap.size w w5) := HB4.out.trans (hb5.mono HB4.out.size)
    have B35 : Hid (Below w3.heap.size w3 w5) := B34.out.trans (hb5.mono B34.out.size)
    have B45 : Hid (Below w4.heap.size w4 w5) := hb5
    have G5 : Hid (TextsOwn w4.heap.size w5 (.slice ga L.length gcap) L) := h5
    clear hb5 h5
    go_wp2_with fail
    refine (eqStringS_same _ _ _ L G5.out.at (U3.out.below B35.out)).mono ?_
    rintro e w6 ⟨rfl, hb6⟩
    have HB6 : Hid (Below w.heap.size w w6) := HB5.out.trans (hb6.mono HB5.out.size)
    have B36 : Hid (Below w3.heap.size w3 w6) := B35.out.trans (hb6.mono B35.out.size)
    have B46 : Hid (Below w4.heap.size w4 w6) := B45.out.trans (hb6.mono B45.out.size)
    have G6 : Hid (TextsOwn w4.heap.size w6 (.slice ga L.length gcap) L) := G5.out.below hb6
    clear hb6
    go_wp2_with fail
    refine (toStateS_any _ _ ss (HS.out.below HB6.out) HN.out).mono ?_
    rintro e w7 ⟨v7, rfl, h7, hb7⟩
    obtain ⟨a7, cap7, rfl, hc7, hm7⟩ := h7.form
    have HB7 : Hid (Below w.heap.size w w7) := HB6.out.trans (hb7.mono HB6.out.size)
    have B37 : Hid (Below w3.heap.size w3 w7) := B36.out.trans (hb7.mono B36.out.size)
    have B47 : Hid (Below w4.heap.size w4 w7) := B46.out.trans (hb7.mono B46.out.size)
    have G7 : Hid (TextsOwn w4.heap.size w7 (.slice ga L.length gcap) L) := G6.out.below hb7
    have H7 : Hid (StatesAt w7 (.slice a7 ss.length cap7) ss) := h7
    clear hb7 h7
    go_wp2_with fail
    refine (eqStateS_same _ _ _ ss (H4.out.below B47.out) H7.out).mono ?_
    rintro e w8 ⟨rfl, hb8⟩
    have HB8 : Hid (Below w.heap.size w w8) := HB7.out.trans (hb8.mono HB7.out.size)
    have B38 : Hid (Below w3.heap.size w3 w8) := B37.out.trans (hb8.mono B37.out.size)
    have B48 : Hid (Below w4.heap.size w4 w8) := B47.out.trans (hb8.mono B47.out.size)
    have G8 : Hid (TextsOwn w4.heap.size w8 (.slice ga L.length gcap) L) := G7.out.below hb8
    clear hb8
    go_wp2_with fail
    refine (markStateS_any w3.heap.size w4.heap.size _ _ ss.length (M4.out.below B48.out) hnl).mono ?_
    rintro e w9 ⟨⟨km, rfl, hkm⟩, hw9⟩
    have HB9 : Hid (Below w.heap.size w w9) := HB8.out.trans (hw9.1.mono HB3.out.size)
    have B39 : Hid (Below w3.heap.size w3 w9) := B38.out.trans hw9.1
    have G9 : Hid (TextsOwn w4.heap.size w9 (.slice ga L.length gcap) L) := G8.out.wr413 hw9
    have hz9 : w4.heap.size ≤ w9.heap.size := Nat.le_trans B48.out.size hw9.2.1
    have hkm' : ¬ km < 0 := by omega
    clear hw9
    go_wp2_with fail
    refine (eqStringS_same _ _ _ L G9.out.at (U3.out.below B39.out)).mono ?_
    rintro e w10 ⟨rfl, hb10⟩
    have HB10 : Hid (Below w.heap.size w w10) := HB9.out.trans (hb10.mono HB9.out.size)
    have B310 : Hid (Below w3.heap.size w3 w10) := B39.out.trans (hb10.mono B39.out.size)
    have G10 : Hid (TextsOwn w4.heap.size w10 (.slice ga L.length gcap) L) := G9.out.below hb10
    have hz10 : w4.heap.size ≤ w10.heap.size := Nat.le_trans hz9 hb10.size
    clear hb10
    go_wp2_with fail
    refine (markStringS_any w4.heap.size 1 _ _ L G10.out (by omega) hln hz10).mono ?_
    rintro e w11 ⟨rfl, h11, hb11⟩
    have HB11 : Hid (Below w.heap.size w w11) := HB10.out.trans (hb11.mono HB4.out.size)
    have B311 : Hid (Below w3.heap.size w3 w11) := B310.out.trans (hb11.mono B34.out.size)
    have G11 : Hid (TextsOwn w4.heap.size w11 (.slice ga L.length gcap) (marks 1 L.length)) := h11
    clear hb11 h11
    go_wp2_with fail
    refine (heldStringS_any 1 L.length _ _ G11.out.at (by omega) hln).mono ?_
    rintro e w12 ⟨rfl, hb12⟩
    have HB12 : Hid (Below w.heap.size w w12) := HB11.out.trans (hb12.mono HB11.out.size)
    have B312 : Hid (Below w3.heap.size w3 w12) := B311.out.trans (hb12.mono B311.out.size)
    have G12 : Hid (TextsOwn w4.heap.size w12 (.slice ga L.length gcap) (marks 1 L.length)) := G11.out.below hb12
    clear hb12
    go_wp2_with fail
    refine (toStateS_any _ _ ss (HS.out.below HB12.out) HN.out).mono ?_
    rintro e w13 ⟨v13, rfl, h13, hb13⟩
    obtain ⟨a13, cap13, rfl, hc13, hm13⟩ := h13.form
    have HB13 : Hid (Below w.heap.size w w13) := HB12.out.trans (hb13.mono HB12.out.size)
    have B313 : Hid (Below w3.heap.size w3 w13) := B312.out.trans (hb13.mono B312.out.size)
    have G13 : Hid (TextsOwn w4.heap.size w13 (.slice ga L.length gcap) (marks 1 L.length)) := G12.out.below hb13
    have H13 : Hid (StatesAt w13 (.slice a13 ss.length cap13) ss) := h13
    clear hb13 h13
    go_wp2_with fail
    refine (HIM.out _ _ H13.out).mono ?_
    rintro e w14 ⟨h0, rfl, h14, hb14⟩
    obtain ⟨ha, hcap, rfl, _, _⟩ := h14.at.form
    have HB14 : Hid (Below w.heap.size w w14) := HB13.out.trans (hb14.mono HB13.out.size)
    have B314 : Hid (Below w3.heap.size w3 w14) := B313.out.trans (hb14.mono B313.out.size)
    have G14 : Hid (TextsOwn w4.heap.size w14 (.slice ga L.length gcap) (marks 1 L.length)) := G13.out.below hb14
    have H14 : Hid (TextsAt w14 (.slice ha L.length hcap) L) := h14.at
    clear hb14 h14
    go_wp2_with fail
    refine (eqStringS_same _ _ _ L H14.out (U3.out.below B314.out)).mono ?_
    rintro e w15 ⟨rfl, hb15⟩
    have HB15 : Hid (Below w.heap.size w w15) := HB14.out.trans (hb15.mono HB14.out.size)
    have G15 : Hid (TextsOwn w4.heap.size w15 (.slice ga L.length gcap) (marks 1 L.length)) := G14.out.below hb15
    clear hb15
    go_wp2_with fail
    refine (heldStringS_any 1 L.length _ _ G15.out.at (by omega) hln).mono ?_
    rintro e w16 ⟨rfl, hb16⟩
    have HB16 : Hid (Below w.heap.size w w16) := HB15.out.trans (hb16.mono HB15.out.size)
    clear hb16
    go_wp2
    go_ret
    exact ⟨rfl, HB16.out⟩
set_option maxHeartbeats 2000000 in
theorem fnExactMachineAll_walk (v : Value) (ss : List Sta) (n : Int) (w : World) (h : StatesAt w v ss) (hnw : (Lit.int .i64 n).wf = true) :
    Calls Try.prog 5 #[v, .int .i64 n] w fun e w' => e = .returned (.bool true) ∧ Below w.heap.size w w' := by
  obtain ⟨a, cap, rfl, hc, hm⟩ := h.form
  have HS : Hid (StatesAt w (.slice a ss.length cap) ss) := h
  clear h
  obtain ⟨L, hL⟩ : ∃ L, malT ss n = L := ⟨_, rfl⟩
  obtain ⟨B, hB⟩ : ∃ B, malOk ss n = B := ⟨_, rfl⟩
  have hln : L.length ≤ 2000000000 := by rw [← hL]; exact Nat.le_trans (malT_small ss n) (by decide)
  have HSP : Hid (∀ (w : World) (v : Value), StatesAt w v ss → Calls Try.prog 19 #[v, .int .i64 n] w fun e w' => ∃ v', e = .returned (.tuple #[v', .bool B]) ∧ TextsAt w' v' L ∧ Below w.heap.size w w') := fun w v h => by
    rw [← hL, ← hB]
    exact specMachineAll_any w v ss n h
  have HIM : Hid (∀ (w : World) (v : Value), StatesAt w v ss → Calls Try.prog 20 #[v, .int .i64 n] w fun e w' => ∃ v', e = .returned (.tuple #[v', .bool B]) ∧ TextsOwn w.heap.size w' v' L ∧ Below w.heap.size w w') := fun w v h => by
    rw [← hL, ← hB]
    exact implMachineAll_any w v ss n h
  clear hL hB
  go_enter Try.func5, Try.ntmps5
  go_wp2_with fail
  refine (szStateS_any _ _ ss _ HS.out (by omega) (by omega)).mono ?_
  rintro e w1 ⟨⟨r, rfl, hr⟩, hb1⟩
  have HB1 : Hid (Below w.heap.size w w1) := hb1
  have HR : Hid (0 ≤ r → SmallS ss) := hr
  clear hb1 hr
  by_cases hr : r < 0
  · go_wp2
    go_ret
    exact ⟨rfl, HB1.out⟩
  · have HN : Hid (SmallS ss) := HR.out (by omega)
    have hnl := HN.out.1
    go_wp2_with fail
    refine (toStateS_any _ _ ss (HS.out.below HB1.out) HN.out).mono ?_
    rintro e w2 ⟨v2, rfl, h2, hb2⟩
    obtain ⟨a2, cap2, rfl, hc2, hm2⟩ := h2.form
    have HB2 : Hid (Below w.heap.size w w2) := HB1.out.trans (hb2.mono HB1.out.size)
    have H2 : Hid (StatesAt w2 (.slice a2 ss.length cap2) ss) := h2
    clear hb2 h2
    go_wp2_with fail
    refine (HSP.out _ _ H2.out).mono ?_
    rintro e w3 ⟨u0, rfl, h3, hb3⟩
    obtain ⟨ua, ucap, rfl, _, _⟩ := h3.form
    have HB3 : Hid (Below w.heap.size w w3) := HB2.out.trans (hb3.mono HB2.out.size)
    have U3 : Hid (TextsAt w3 (.slice ua L.length ucap) L) := h3
    clear hb3 h3
    go_wp2_with fail
    refine (toStateS_own _ _ ss (HS.out.below HB3.out) HN.out).mono ?_
    rintro e w4 ⟨v4, rfl, ⟨h4, hmk⟩, hb4⟩
    obtain ⟨a4, cap4, rfl, hc4, hm4⟩ := h4.form
    have HB4 : Hid (Below w.heap.size w w4) := HB3.out.trans (hb4.mono HB3.out.size)
    have H4 : Hid (StatesAt w4 (.slice a4 ss.length cap4) ss) := h4
    have M4 : Hid (MarkS w3.heap.size w4.heap.size w4 (.slice a4 ss.length cap4) ss.length) := hmk
    have B34 : Hid (Below w3.heap.size w3 w4) := hb4
    clear hb4 h4 hmk
    go_wp2_with fail
    refine (HIM.out _ _ H4.out).mono ?_
    rintro e w5 ⟨g0, rfl, h5, hb5⟩
    obtain ⟨ga, gcap, rfl, _, _⟩ := h5.at.form
    have HB5 : Hid (Below w.heap.size w w5) := HB4.out.trans (hb5.mono HB4.out.size)
    have B35 : Hid (Below w3.heap.size w3 w5) := B34.out.trans (hb5.mono B34.out.size)
    have B45 : Hid (Below w4.heap.size w4 w5) := hb5
    have G5 : Hid (TextsOwn w4.heap.size w5 (.slice ga L.length gcap) L) := h5
    clear hb5 h5
    go_wp2_with fail
    refine (eqStringS_same _ _ _ L G5.out.at (U3.out.below B35.out)).mono ?_
    rintro e w6 ⟨rfl, hb6⟩
    have HB6 : Hid (Below w.heap.size w w6) := HB5.out.trans (hb6.mono HB5.out.size)
    have B36 : Hid (Below w3.heap.size w3 w6) := B35.out.trans (hb6.mono B35.out.size)
    have B46 : Hid (Below w4.heap.size w4 w6) := B45.out.trans (hb6.mono B45.out.size)
    have G6 : Hid (TextsOwn w4.heap.size w6 (.slice ga L.length gcap) L) := G5.out.below hb6
    clear hb6
    go_wp2_with fail
    refine (toStateS_any _ _ ss (HS.out.below HB6.out) HN.out).mono ?_
    rintro e w7 ⟨v7, rfl, h7, hb7⟩
    obtain ⟨a7, cap7, rfl, hc7, hm7⟩ := h7.form
    have HB7 : Hid (Below w.heap.size w w7) := HB6.out.trans (hb7.mono HB6.out.size)
    have B37 : Hid (Below w3.heap.size w3 w7) := B36.out.trans (hb7.mono B36.out.size)
    have B47 : Hid (Below w4.heap.size w4 w7) := B46.out.trans (hb7.mono B46.out.size)
    have G7 : Hid (TextsOwn w4.heap.size w7 (.slice ga L.length gcap) L) := G6.out.below hb7
    have H7 : Hid (StatesAt w7 (.slice a7 ss.length cap7) ss) := h7
    clear hb7 h7
    go_wp2_with fail
    refine (eqStateS_same _ _ _ ss (H4.out.below B47.out) H7.out).mono ?_
    rintro e w8 ⟨rfl, hb8⟩
    have HB8 : Hid (Below w.heap.size w w8) := HB7.out.trans (hb8.mono HB7.out.size)
    have B38 : Hid (Below w3.heap.size w3 w8) := B37.out.trans (hb8.mono B37.out.size)
    have B48 : Hid (Below w4.heap.size w4 w8) := B47.out.trans (hb8.mono B47.out.size)
    have G8 : Hid (TextsOwn w4.heap.size w8 (.slice ga L.length gcap) L) := G7.out.below hb8
    clear hb8
    go_wp2_with fail
    refine (markStateS_any w3.heap.size w4.heap.size _ _ ss.length (M4.out.below B48.out) hnl).mono ?_
    rintro e w9 ⟨⟨km, rfl, hkm⟩, hw9⟩
    have HB9 : Hid (Below w.heap.size w w9) := HB8.out.trans (hw9.1.mono HB3.out.size)
    have B39 : Hid (Below w3.heap.size w3 w9) := B38.out.trans hw9.1
    have G9 : Hid (TextsOwn w4.heap.size w9 (.slice ga L.length gcap) L) := G8.out.wr413 hw9
    have hz9 : w4.heap.size ≤ w9.heap.size := Nat.le_trans B48.out.size hw9.2.1
    have hkm' : ¬ km < 0 := by omega
    clear hw9
    go_wp2_with fail
    refine (eqStringS_same _ _ _ L G9.out.at (U3.out.below B39.out)).mono ?_
    rintro e w10 ⟨rfl, hb10⟩
    have HB10 : Hid (Below w.heap.size w w10) := HB9.out.trans (hb10.mono HB9.out.size)
    have B310 : Hid (Below w3.heap.size w3 w10) := B39.out.trans (hb10.mono B39.out.size)
    have G10 : Hid (TextsOwn w4.heap.size w10 (.slice ga L.length gcap) L) := G9.out.below hb10
    have hz10 : w4.heap.size ≤ w10.heap.size := Nat.le_trans hz9 hb10.size
    clear hb10
    go_wp2_with fail
    refine (markStringS_any w4.heap.size 1 _ _ L G10.out (by omega) hln hz10).mono ?_
    rintro e w11 ⟨rfl, h11, hb11⟩
    have HB11 : Hid (Below w.heap.size w w11) := HB10.out.trans (hb11.mono HB4.out.size)
    have B311 : Hid (Below w3.heap.size w3 w11) := B310.out.trans (hb11.mono B34.out.size)
    have G11 : Hid (TextsOwn w4.heap.size w11 (.slice ga L.length gcap) (marks 1 L.length)) := h11
    clear hb11 h11
    go_wp2_with fail
    refine (heldStringS_any 1 L.length _ _ G11.out.at (by omega) hln).mono ?_
    rintro e w12 ⟨rfl, hb12⟩
    have HB12 : Hid (Below w.heap.size w w12) := HB11.out.trans (hb12.mono HB11.out.size)
    have B312 : Hid (Below w3.heap.size w3 w12) := B311.out.trans (hb12.mono B311.out.size)
    have G12 : Hid (TextsOwn w4.heap.size w12 (.slice ga L.length gcap) (marks 1 L.length)) := G11.out.below hb12
    clear hb12
    go_wp2_with fail
    refine (toStateS_any _ _ ss (HS.out.below HB12.out) HN.out).mono ?_
    rintro e w13 ⟨v13, rfl, h13, hb13⟩
    obtain ⟨a13, cap13, rfl, hc13, hm13⟩ := h13.form
    have HB13 : Hid (Below w.heap.size w w13) := HB12.out.trans (hb13.mono HB12.out.size)
    have B313 : Hid (Below w3.heap.size w3 w13) := B312.out.trans (hb13.mono B312.out.size)
    have G13 : Hid (TextsOwn w4.heap.size w13 (.slice ga L.length gcap) (marks 1 L.length)) := G12.out.below hb13
    have H13 : Hid (StatesAt w13 (.slice a13 ss.length cap13) ss) := h13
    clear hb13 h13
    go_wp2_with fail
    refine (HIM.out _ _ H13.out).mono ?_
    rintro e w14 ⟨h0, rfl, h14, hb14⟩
    obtain ⟨ha, hcap, rfl, _, _⟩ := h14.at.form
    have HB14 : Hid (Below w.heap.size w w14) := HB13.out.trans (hb14.mono HB13.out.size)
    have B314 : Hid (Below w3.heap.size w3 w14) := B313.out.trans (hb14.mono B313.out.size)
    have G14 : Hid (TextsOwn w4.heap.size w14 (.slice ga L.length gcap) (marks 1 L.length)) := G13.out.below hb14
    have H14 : Hid (TextsAt w14 (.slice ha L.length hcap) L) := h14.at
    clear hb14 h14
    go_wp2_with fail
    refine (eqStringS_same _ _ _ L H14.out (U3.out.below B314.out)).mono ?_
    rintro e w15 ⟨rfl, hb15⟩
    have HB15 : Hid (Below w.heap.size w w15) := HB14.out.trans (hb15.mono HB14.out.size)
    have G15 : Hid (TextsOwn w4.heap.size w15 (.slice ga L.length gcap) (marks 1 L.length)) := G14.out.below hb15
    clear hb15
    go_wp2_with fail
    refine (heldStringS_any 1 L.length _ _ G15.out.at (by omega) hln).mono ?_
    rintro e w16 ⟨rfl, hb16⟩
    have HB16 : Hid (Below w.heap.size w w16) := HB15.out.trans (hb16.mono HB15.out.size)
    clear hb16
    go_wp2
    go_ret
    exact ⟨rfl, HB16.out⟩
end Go.Proofs.Ytbkjbkdmanaohaa
