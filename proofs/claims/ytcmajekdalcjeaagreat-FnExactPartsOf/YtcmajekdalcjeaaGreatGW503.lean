/-
  Who knows the words of a book: impl.bookKnower; a text as so many parts that are known: impl.partsIn, fewestParts, PartsOf.
-/
import Derived.Test.YtcmajekdalcjeaaGreatW153
import Derived.Test.YtcmajekdalcjeaaGreatW505
import Derived.Test.YtcmajekdalcjeaaGreatGW154
import Derived.Test.YtcmajekdalcjeaaGreatGM6
namespace Go.Proofs.YtcmajekdalcjeaaGreat
open Go.RowKit Go.Maps Go.WideMaps
set_option linter.unusedVariables false
/-- A knower of a book's words: its variable holds the map. -/
def KnAt (w : World) (xs : List Aff) (es : List (ByteArray × ByteArray)) (g : Nat) : Prop :=
  ∃ (m n b : Nat) (D : DataW Unit), w.cell? ⟨g, 0, none⟩ = some (.map (some m)) ∧ g < w.heap.size ∧ World.ownsGroups (H := Unit) w Tryz.prog 9 b 3 .i64 m n D ∧ n ≤ 2400 ∧ Told Tryz.prog 9 D (pairsT xs es)
theorem KnAt.below {w w' : World} {xs : List Aff} {es : List (ByteArray × ByteArray)} {g : Nat} (h : KnAt w xs es g) (hb : Below w.heap.size w w') : KnAt w' xs es g := by
  obtain ⟨m, n, b, D, h1, h2, h3, h4, h5⟩ := h
  exact ⟨m, n, b, D, (hb.cell (p := ⟨g, 0, none⟩) h2).trans h1, Nat.lt_of_lt_of_le h2 hb.size, groups_below h3 hb, h4, h5⟩
def knF (g : Nat) : Value := .func (.func 43) #[] #[.pointer (some ⟨g, 0, none⟩)]
/-- What partsIn answers: nothing just if there are no parts. -/
def PRes (lo : Nat) (w : World) (v : Value) (L : List ByteArray) : Prop :=
  w.ownsRow lo 9 1 v L.length (texts L) ∧ (L = [] → v = .slice none 0 0) ∧ (L ≠ [] → ∃ a n c, v = .slice (some a) n c)
theorem PRes.nil (lo : Nat) (w : World) : PRes lo w (.slice none 0 0) [] := ⟨World.ownsRow_nil _ _ _ _, fun _ => rfl, fun h => absurd rfl h⟩
theorem PRes.low {lo lo' : Nat} {w : World} {v : Value} {L : List ByteArray} (h : PRes lo w v L) (hl : lo' ≤ lo) : PRes lo' w v L := ⟨owns_lower h.1 hl, h.2⟩
theorem PRes.of_owns {lo : Nat} {w : World} {v : Value} {L : List ByteArray} (h : w.ownsRow lo 9 1 v L.length (texts L)) (hn : L ≠ []) : PRes lo w v L := by
  refine ⟨h, fun e => absurd e hn, fun _ => ?_⟩
  rcases h.2 with ⟨-, h0⟩ | ⟨g, cap, cur, hv, -⟩
  · exact absurd (List.length_eq_zero_iff.1 h0) hn
  · exact ⟨_, _, _, hv⟩
theorem owns_one500 (w : World) (s : ByteArray) : (w.alloc (.cells #[.string s] 9)).ownsRow w.heap.size 9 1 (.slice (some ⟨w.heap.size, 0, none⟩) 1 1) [s].length (texts [s]) :=
  ⟨rfl, .inr ⟨w.heap.size, 1, _, rfl, Nat.le_refl _, heap_alloc_last w _, Nat.le_refl _, by unfold maxLen; decide, rfl, rfl⟩⟩
set_option maxHeartbeats 1000000 in
theorem bookKnower_any (w : World) (va ve : Value) (xs : List Aff) (es : List (ByteArray × ByteArray)) (ha : AffsAt w va xs) (he : EntsAt w ve es) :
    Calls Tryz.prog 22 #[.agg #[va, ve]] w fun e w' => ∃ g, e = .returned (knF g) ∧ KnAt w' xs es g ∧ Below w.heap.size w w' := by
  obtain ⟨a, cap, rfl, hc, hm⟩ := ha.form
  obtain ⟨a', cap', rfl, hc', hm'⟩ := he.form
  have HA : Hid (AffsAt w (.slice a xs.length cap) xs) := ha
  have HE : Hid (EntsAt w (.slice a' es.length cap') es) := he
  clear ha he
  have HB0 : Hid (Below w.heap.size w (w.alloc (.cells #[.slice a xs.length cap, .slice a' es.length cap'] 26))) := (Below.refl _ _).alloc (Nat.le_refl _) _
  go_enter Tryz.func22, Tryz.ntmps22
  go_wp2_with fail
  refine (wordStems_any _ _ _ xs es (HA.out.below HB0.out) (HE.out.below HB0.out)).mono ?_
  rintro e w1 ⟨n, D, rfl, hg, hn, ht, hb1, hz⟩
  have HB1 : Hid (Below w.heap.size w w1) := HB0.out.trans (hb1.mono HB0.out.size)
  have HT : Hid (Told Tryz.prog 9 D (pairsT xs es)) := ht
  have HG : Hid (World.ownsGroups (H := Unit) w1 Tryz.prog 9 ((w.alloc (.cells #[.slice a xs.length cap, .slice a' es.length cap'] 26)).heap.size + 2) 3 .i64 ((w.alloc (.cells #[.slice a xs.length cap, .slice a' es.length cap'] 26)).heap.size + 1) n D) := hg
  clear hb1 ht hg
  go_wp2
  go_ret
  refine ⟨w1.heap.size, rfl, ⟨_, n, _, D, ?_, by simp, groups_below HG.out ((Below.refl _ _).alloc (Nat.le_refl _) _), hn, HT.out⟩, HB1.out.alloc HB1.out.size _⟩
  rw [cell_of_row _ _ 0 _ _ _ (heap_alloc_last w1 _)]
  simp
set_option maxRecDepth 100000 in
set_option maxHeartbeats 2000000 in
theorem knows1_any (w : World) (xs : List Aff) (es : List (ByteArray × ByteArray)) (g : Nat) (s : ByteArray) (h : KnAt w xs es g) (hs : s.size ≤ maxLen) :
    Calls Tryz.prog 43 #[.string s, .pointer (some ⟨g, 0, none⟩)] w fun e w' => e = .returned (.bool (knowsT xs es s)) ∧ Below w.heap.size w w' := by
  obtain ⟨m, n, b, D, h1, h2, h3, h4, h5⟩ := h
  have HK : Hid (knowsT xs es s = decide (0 < (placesOf (pairsT xs es) s).length)) := knowsT_places xs es s
  have HT : Hid (Told Tryz.prog 9 D (pairsT xs es)) := h5
  have HG : Hid (World.ownsGroups (H := Unit) w Tryz.prog 9 b 3 .i64 m n D) := h3
  have hkey := keyOf_string_mk Tryz.underlying9 hs
  have hnm : n < maxLen := by unfold maxLen; omega
  clear h3 h5
  go_enter Tryz.func43, Tryz.ntmps43
  go_wp2_with (first
    | (at_lookup; refine wpList_lookup_groups _ rfl _ _ 57 rfl 9 56 3 .i64 stemKey Tryz.underlying57 (zero_ints152 _) b m n D rfl HG.out hnm _ _ rfl hkey ?_; intro v zs hat hoi hzl hback; obtain ⟨b0, cq, rfl⟩ := owns_form hoi.1)
    | go_in)
  go_ret
  have hzs := told_at HT.out hkey hoi hat
  refine ⟨ret_bool ?_, Below.refl _ _⟩
  rw [HK.out, ← hzs]
set_option maxRecDepth 100000 in
set_option maxHeartbeats 4000000 in
theorem partsIn_any (xs : List Aff) (es : List (ByteArray × ByteArray)) (g : Nat) : ∀ (m : Nat), m ≤ 2 → ∀ (w : World) (s : ByteArray), KnAt w xs es g → s.size ≤ 1000 →
    Calls Tryz.prog 42 #[knF g, .string s, .int .i64 ((m + 1 : Nat) : Int)] w fun e w' => ∃ v, e = .returned v ∧ PRes w.heap.size w' v (partsN (knowsT xs es) (m + 1) s) ∧ Below w.heap.size w w'
  | 0, _, w, s, h, hs => by
    have HKN : Hid (KnAt w xs es g) := h
    have HS : Hid (s.size ≤ maxLen) := by show _ ≤ _; unfold maxLen; omega
    by_cases h3 : (s.size : Int) < 3
    · have HL : Hid (partsN (knowsT xs es) (0 + 1) s = []) := parts_short _ 0 (by omega)
      go_enter Tryz.func42, Tryz.ntmps42
      go_wp2
      go_ret
      exact ⟨_, rfl, by rw [HL.out]; exact PRes.nil _ _, Below.refl _ _⟩
    · have HC : Hid (Calls Tryz.prog 43 #[.string s, .pointer (some ⟨g, 0, none⟩)] w fun e w' => e = .returned (.bool (knowsT xs es s)) ∧ Below w.heap.size w w') := knows1_any w xs es g s h HS.out
      have hd3 : decide (3 ≤ s.size) = true := decide_eq_true (by omega)
      cases hk : knowsT xs es s with
      | false =>
        have HL : Hid (partsN (knowsT xs es) (0 + 1) s = []) := by show partsN _ 1 s = []; rw [partsN, hk, hd3]; rfl
        unfold knF
        go_enter Tryz.func42, Tryz.ntmps42
        go_wp2_with fail
        refine HC.out.mono ?_
        rintro e w1 ⟨rfl, hb1⟩
        rw [hk]
        have HB1 : Hid (Below w.heap.size w w1) := hb1
        clear hb1
        go_wp2
        go_ret
        exact ⟨_, rfl, by rw [HL.out]; exact PRes.nil _ _, HB1.out⟩
      | true =>
        have HL : Hid (partsN (knowsT xs es) (0 + 1) s = [s]) := by show partsN _ 1 s = [s]; rw [partsN, hk, hd3]; rfl
        unfold knF
        go_enter Tryz.func42, Tryz.ntmps42
        go_wp2_with fail
        refine HC.out.mono ?_
        rintro e w1 ⟨rfl, hb1⟩
        rw [hk]
        have HB1 : Hid (Below w.heap.size w w1) := hb1
        clear hb1
        go_wp2
        go_ret
        refine ⟨_, rfl, ?_, HB1.out.alloc HB1.out.size _⟩
        rw [HL.out]
        exact PRes.of_owns (owns_lower (owns_one500 w1 s) HB1.out.size) (by simp)
  | m + 1, hm, w, s, h, hs => by
    have HKN : Hid (KnAt w xs es g) := h
    have IH : Hid (∀ (w : World) (s : ByteArray), KnAt w xs es g → s.size ≤ 1000 → Calls Tryz.prog 42 #[knF g, .string s, .int .i64 ((m + 1 : Nat) : Int)] w fun e w' => ∃ v, e = .returned v ∧ PRes w.heap.size w' v (partsN (knowsT xs es) (m + 1) s) ∧ Below w.heap.size w w') := fun w s h1 h2 => partsIn_any xs es g m (by omega) w s h1 h2
    obtain ⟨K, hK⟩ : ∃ K, knowsT xs es = K := ⟨_, rfl⟩
    have HKT : Hid (∀ t, knowsT xs es t = K t) := fun t => by rw [hK]
    obtain ⟨R, hR⟩ : ∃ R, partsN (knowsT xs es) (m + 1) = R := ⟨_, rfl⟩
    have HRT : Hid (∀ t, partsN (knowsT xs es) (m + 1) t = R t) := fun t => by rw [hR]
    have HRL : Hid (∀ t, (R t).length ≤ m + 1 ∧ ∀ x ∈ R t, x.size ≤ t.size) := fun t => by rw [← hR]; exact ⟨parts_len _ _ _, parts_fit _ _ _⟩
    obtain ⟨N, hN⟩ : ∃ N : Nat, m + 1 + 1 = N := ⟨_, rfl⟩
    have HPF : Hid (partsN (knowsT xs es) N s = pFrom K R s (s.size - 3) 3) := by rw [← hN]; show partsN (knowsT xs es) (m + 2) s = _; rw [partsN, hK, ← hR, hK]
    have HM2 : Hid (m ≤ 1) := by show _ ≤ _; omega
    have hNm : N ≤ 3 := by omega
    have hn1 : (((N : Nat) : Int) == 1) = false := by simp; omega
    have hn2 : IntKind.i64.wrap ((N : Int) - 1) = ((m + 1 : Nat) : Int) := by rw [IntWalk.i64_in _ (by omega)]; omega
    have hsz : (s.size : Int) ≤ 1000 := by omega
    rw [hN]
    clear h hm hK hR hN
    unfold knF
    go_enter Tryz.func42, Tryz.ntmps42
    go_wp2_with fail
    go_loopw [7] (fun i wr => ∃ k : Nat, 3 ≤ k ∧ (k ≤ s.size ∨ k = 3) ∧ i = .int .i64 k ∧ pFrom K R s (s.size - 3) 3 = pFrom K R s (s.size - k) k ∧ Below w.heap.size w wr) (fun i _ => s.size - (intOf i).toNat)
    case atStart => exact ⟨3, Nat.le_refl _, .inr rfl, rfl, rfl, Below.refl _ _⟩
    case round =>
      obtain ⟨k, hk3, hks, rfl, hp, hb⟩ := hrel
      have HP : Hid (pFrom K R s (s.size - 3) 3 = pFrom K R s (s.size - k) k) := hp
      have HB : Hid (Below w.heap.size w wr) := hb
      clear hp hb
      by_cases hlt : k < s.size
      · have hlti : (k : Int) < (s.size : Int) := by omega
        have hk0 : (0 : Int) ≤ (k : Int) := by omega
        obtain ⟨f, hf⟩ : ∃ f, s.size - k = f + 1 := ⟨s.size - k - 1, by omega⟩
        have HF : Hid (s.size - k = f + 1 ∧ s.size - (k + 1) = f) := ⟨hf, by omega⟩
        have q1 : IntKind.i64.wrap ((k : Int) + 1) = ((k + 1 : Nat) : Int) := by rw [IntWalk.i64_in _ (by omega)]; omega
        obtain ⟨A, hA⟩ : ∃ A, s.extract 0 k = A := ⟨_, rfl⟩
        obtain ⟨Z, hZ⟩ : ∃ Z, s.extract k s.size = Z := ⟨_, rfl⟩
        have HAS : Hid (A.size = k) := by show _ = _; rw [← hA]; exact pre_size s k (by omega)
        have HZS : Hid (Z.size = s.size - k) := by show _ = _; rw [← hZ]; exact ext_size50 s k (by omega)
        have HA : Hid (s.extract 0 k = A) := hA
        have HZ : Hid (s.extract k s.size = Z) := hZ
        clear hf hA hZ
        go_wp2_with fail
        try rw [HA.out]
        refine (knows1_any wr xs es g A (HKN.out.below HB.out) (by have := HAS.out; unfold maxLen; omega)).mono ?_
        rintro e w1 ⟨rfl, hb1⟩
        rw [HKT.out]
        have HB1 : Hid (Below w.heap.size w w1) := HB.out.trans (hb1.mono HB.out.size)
        clear hb1
        cases hka : K A with
        | false =>
          go_wp2
          go_roundw
          case rel => exact ⟨k + 1, by omega, .inl (by omega), by go_num, by rw [HP.out, HF.out.1, HF.out.2]; exact pFrom_skip (by rw [HA.out]; exact hka), HB1.out⟩
          case measure => simp [intOf]; omega
        | true =>
          go_wp2_with fail
          try rw [HZ.out]
          refine (IH.out w1 Z (HKN.out.below HB1.out) (by have := HZS.out; omega)).mono ?_
          rintro e w2 ⟨v, rfl, hr2, hb2⟩
          rw [HRT.out] at hr2
          have HB2 : Hid (Below w.heap.size w w2) := HB1.out.trans (hb2.mono HB1.out.size)
          have HR2 : Hid (PRes w.heap.size w2 v (R Z)) := hr2.low HB1.out.size
          clear hr2 hb2
          by_cases hrz : R Z = []
          · have hv := HR2.out.2.1 hrz
            subst hv
            go_wp2
            go_roundw
            case rel => exact ⟨k + 1, by omega, .inl (by omega), by go_num, by rw [HP.out, HF.out.1, HF.out.2]; exact pFrom_none (by rw [HZ.out]; exact hrz), HB2.out⟩
            case measure => simp [intOf]; omega
          · obtain ⟨a, n, c, rfl⟩ := HR2.out.2.2 hrz
            have HRES : Hid (partsN (knowsT xs es) N s = A :: R Z) := by
              show _ = _
              rw [HPF.out, HP.out, HF.out.1, ← HA.out]
              exact pFrom_hit (by rw [HA.out]; exact hka) (by rw [HZ.out]) hrz
            obtain ⟨w3, hw3⟩ : ∃ X, w2.alloc (.cells #[.string A] 9) = X := ⟨_, rfl⟩
            have N3 : Hid (w3.heap[w2.heap.size]? = some (.cells #[.string A] 9 (0, 0))) := by show _ = _; rw [← hw3]; exact heap_alloc_last w2 _
            have hb3 : Below w2.heap.size w2 w3 := by rw [← hw3]; exact (Below.refl _ _).alloc (Nat.le_refl _) _
            have HB3 : Hid (Below w.heap.size w w3) := HB2.out.trans (hb3.mono HB2.out.size)
            have HO3 : Hid (w3.ownsRow w.heap.size 9 1 (.slice (some a) n c) (R Z).length (texts (R Z))) := owns_below HR2.out.1 hb3
            have HNE : Hid ((Value.slice (some a) n c).ownBlock ≠ some w2.heap.size) := fun e => by have := (World.ownsRow.lt HR2.out.1 _ e).2; omega
            have HFI : Hid (∀ x ∈ (R Z).take 0 ++ A :: (R Z).drop 0, x.size ≤ maxLen) := fun x hx => by
              simp only [List.take_zero, List.drop_zero, List.nil_append] at hx
              have h1 := HAS.out
              have h2 := HZS.out
              unfold maxLen
              rcases List.mem_cons.1 hx with rfl | hx
              · omega
              · have := (HRL.out Z).2 x hx
                omega
            have HRN : Hid ((R Z).length ≤ 1000) := by have h8 := (HRL.out Z).1; have h9 := HM2.out; show _ ≤ _; omega
            have HW3 : Hid (w2.alloc (.cells #[.string A] 9) = w3) := hw3
            clear hb3 hw3
            go_wp2_with fail
            try rw [HA.out]
            rw [HW3.out]
            refine (insertOwn_any w3 _ (R Z) A 0 w2.heap.size w.heap.size HO3.out (Nat.zero_le _) HRN.out N3.out HNE.out HB3.out.size HFI.out).mono ?_
            rintro e w4 ⟨v4, rfl, h4, hb4⟩
            rw [List.take_zero, List.drop_zero, List.nil_append] at h4
            have HR4 : Hid (PRes w.heap.size w4 v4 (A :: R Z)) := PRes.of_owns h4.2 (by simp)
            have HB4 : Hid (Below w.heap.size w w4) := HB3.out.trans hb4
            clear h4 hb4
            go_wp2
            go_ret
            exact ⟨_, rfl, by rw [HRES.out]; exact HR4.out, HB4.out⟩
      · have HRES : Hid (partsN (knowsT xs es) N s = []) := by
          show _ = _
          rw [HPF.out, HP.out, show s.size - k = 0 by omega]
          rfl
        go_wp2
        go_ret
        exact ⟨_, rfl, by rw [HRES.out]; exact PRes.nil _ _, HB.out⟩
end Go.Proofs.YtcmajekdalcjeaaGreat
/-
  A word as two or three words of a book: impl.fewestParts, PartsOf.
-/
namespace Go.Proofs.YtcmajekdalcjeaaGreat
open Go.RowKit Go.Maps Go.WideMaps
set_option linter.unusedVariables false
/-- What fewestParts answers. -/
def fewT (K : ByteArray → Bool) (s : ByteArray) : List ByteArray := if wok s then partsT K s else []
def poT (xs : List Aff) (es : List (ByteArray × ByteArray)) (s : ByteArray) : List ByteArray := fewT (knowsT xs es) s
theorem fewT_len (K : ByteArray → Bool) (s : ByteArray) : (fewT K s).length ≤ 3 := by
  unfold fewT
  split
  · exact partsT_len K s
  · exact Nat.zero_le _
theorem fewT_fit (K : ByteArray → Bool) (s : ByteArray) : ∀ x ∈ fewT K s, x.size ≤ s.size := by
  unfold fewT
  split
  · exact partsT_fit K s
  · intro x hx; cases hx
theorem wok_small501 {s : ByteArray} (h : wok s = true) : s.size ≤ 12 := by
  unfold wok at h
  simp only [Bool.and_eq_true, decide_eq_true_eq] at h
  omega
set_option maxRecDepth 100000 in
set_option maxHeartbeats 2000000 in
theorem fewestParts_any (w : World) (xs : List Aff) (es : List (ByteArray × ByteArray)) (g : Nat) (s : ByteArray) (h : KnAt w xs es g) (hs : s.size ≤ maxLen) :
    Calls Tryz.prog 21 #[knF g, .string s] w fun e w' => ∃ v, e = .returned v ∧ PRes w.heap.size w' v (fewT (knowsT xs es) s) ∧ Below w.heap.size w w' := by
  have HKN : Hid (KnAt w xs es g) := h
  clear h
  cases hw : wok s with
  | false =>
    have HL : Hid (fewT (knowsT xs es) s = []) := by show _ = _; unfold fewT; rw [hw]; rfl
    go_enter Tryz.func21, Tryz.ntmps21
    go_wp2_with fail
    refine (wordOk_any _ _ hs).mono ?_
    rintro e w1 ⟨rfl, hw1⟩
    have hw2 := hw1.symm
    clear hw1
    subst hw2
    rw [hw]
    go_wp2
    go_ret
    exact ⟨_, rfl, by rw [HL.out]; exact PRes.nil _ _, Below.refl _ _⟩
  | true =>
    have hs12 := wok_small501 hw
    have HL : Hid (fewT (knowsT xs es) s = partsT (knowsT xs es) s) := by show _ = _; unfold fewT; rw [hw]; rfl
    have HP : Hid (∀ (m : Nat), m ≤ 2 → ∀ (V : World), Below w.heap.size w V → Calls Tryz.prog 42 #[knF g, .string s, .int .i64 ((m + 1 : Nat) : Int)] V fun e w' => ∃ v, e = .returned v ∧ PRes V.heap.size w' v (partsN (knowsT xs es) (m + 1) s) ∧ Below V.heap.size V w') := fun m hm V hV => partsIn_any xs es g m hm V s (HKN.out.below hV) (by omega)
    obtain ⟨L2, hL2⟩ : ∃ L, partsN (knowsT xs es) 2 s = L := ⟨_, rfl⟩
    obtain ⟨L3, hL3⟩ : ∃ L, partsN (knowsT xs es) 3 s = L := ⟨_, rfl⟩
    have H2 : Hid (partsN (knowsT xs es) (1 + 1) s = L2) := hL2
    have H3 : Hid (partsN (knowsT xs es) (2 + 1) s = L3) := hL3
    have HT2 : Hid (L2 ≠ [] → fewT (knowsT xs es) s = L2) := fun hn => by rw [HL.out, partsT_two (by rw [hL2]; exact hn), hL2]
    have HT3 : Hid (L2 = [] → fewT (knowsT xs es) s = L3) := fun hn => by rw [HL.out, partsT_three (by rw [hL2]; exact hn), hL3]
    clear hL2 hL3
    go_enter Tryz.func21, Tryz.ntmps21
    go_wp2_with fail
    refine (wordOk_any _ _ hs).mono ?_
    rintro e w1 ⟨rfl, hw1⟩
    have hw2 := hw1.symm
    clear hw1
    subst hw2
    rw [hw]
    go_wp2_with fail
    go_loopw [5] (fun i wr => ∃ k : Nat, (k = 2 ∨ (k = 3 ∧ L2 = []) ∨ (k = 4 ∧ L2 = [] ∧ L3 = [])) ∧ i = .int .i64 k ∧ Below w.heap.size w wr) (fun i _ => 4 - (intOf i).toNat)
    case atStart => exact ⟨2, .inl rfl, rfl, Below.refl _ _⟩
    case round =>
      obtain ⟨k, hk, rfl, hb⟩ := hrel
      have HB : Hid (Below w.heap.size w wr) := hb
      clear hb
      rcases hk with rfl | ⟨rfl, h2⟩ | ⟨rfl, h2, h3⟩
      · go_wp2_with fail
        refine (HP.out 1 (by omega) wr HB.out).mono ?_
        rintro e w3 ⟨v, rfl, hr, hb3⟩
        rw [H2.out] at hr
        have HB3 : Hid (Below w.heap.size w w3) := HB.out.trans (hb3.mono HB.out.size)
        have HR : Hid (PRes w.heap.size w3 v L2) := hr.low HB.out.size
        clear hr hb3
        by_cases hn : L2 = []
        · have hv := HR.out.2.1 hn
          subst hv
          go_wp2
          go_roundw
          case rel => exact ⟨3, .inr (.inl ⟨rfl, hn⟩), by go_num, HB3.out⟩
          case measure => simp [intOf]
        · obtain ⟨a, n, c, rfl⟩ := HR.out.2.2 hn
          go_wp2
          go_ret
          exact ⟨_, rfl, by rw [HT2.out hn]; exact HR.out, HB3.out⟩
      · go_wp2_with fail
        refine (HP.out 2 (by omega) wr HB.out).mono ?_
        rintro e w3 ⟨v, rfl, hr, hb3⟩
        rw [H3.out] at hr
        have HB3 : Hid (Below w.heap.size w w3) := HB.out.trans (hb3.mono HB.out.size)
        have HR : Hid (PRes w.heap.size w3 v L3) := hr.low HB.out.size
        clear hr hb3
        by_cases hn : L3 = []
        · have hv := HR.out.2.1 hn
          subst hv
          go_wp2
          go_roundw
          case rel => exact ⟨4, .inr (.inr ⟨rfl, h2, hn⟩), by go_num, HB3.out⟩
          case measure => simp [intOf]
        · obtain ⟨a, n, c, rfl⟩ := HR.out.2.2 hn
          go_wp2
          go_ret
          exact ⟨_, rfl, by rw [HT3.out h2]; exact HR.out, HB3.out⟩
      · go_wp2
        go_ret
        exact ⟨_, rfl, by rw [HT3.out h2, h3]; exact PRes.nil _ _, HB.out⟩
set_option maxHeartbeats 1000000 in
theorem implPartsOf_any (w : World) (va ve : Value) (xs : List Aff) (es : List (ByteArray × ByteArray)) (s : ByteArray) (ha : AffsAt w va xs) (he : EntsAt w ve es) (hs : s.size ≤ maxLen) :
    Calls Tryz.prog 6 #[.agg #[va, ve], .string s] w fun e w' => ∃ v, e = .returned v ∧ TextsRow w.heap.size w'.heap.size w' v (poT xs es s) ∧ Below w.heap.size w w' := by
  obtain ⟨a, cap, rfl, hc, hm⟩ := ha.form
  obtain ⟨a', cap', rfl, hc', hm'⟩ := he.form
  have HA : Hid (AffsAt w (.slice a xs.length cap) xs) := ha
  have HE : Hid (EntsAt w (.slice a' es.length cap') es) := he
  have HF : Hid (∀ (i : Nat) (x : ByteArray), (poT xs es s)[i]? = some x → x.size ≤ maxLen) := fun i x hx => Nat.le_trans (fewT_fit _ _ x (List.mem_of_getElem? hx)) hs
  clear ha he
  have HB0 : Hid (Below w.heap.size w (w.alloc (.cells #[.slice a xs.length cap, .slice a' es.length cap'] 26))) := (Below.refl _ _).alloc (Nat.le_refl _) _
  go_enter Tryz.func6, Tryz.ntmps6
  go_wp2_with fail
  refine (bookKnower_any _ _ _ xs es (HA.out.below HB0.out) (HE.out.below HB0.out)).mono ?_
  rintro e w1 ⟨g, rfl, hk, hb1⟩
  have HB1 : Hid (Below w.heap.size w w1) := HB0.out.trans (hb1.mono HB0.out.size)
  have HK1 : Hid (KnAt w1 xs es g) := hk
  clear hk hb1
  unfold knF
  go_wp2_with fail
  refine (fewestParts_any w1 xs es g s HK1.out hs).mono ?_
  rintro e w2 ⟨v, rfl, hr, hb2⟩
  have HB2 : Hid (Below w.heap.size w w2) := HB1.out.trans (hb2.mono HB1.out.size)
  have HR : Hid (PRes w.heap.size w2 v (poT xs es s)) := hr.low HB1.out.size
  clear hr hb2
  go_wp2
  go_ret
  exact ⟨_, rfl, textsRow_of_owns HR.out.1 rfl HF.out, HB2.out⟩
end Go.Proofs.YtcmajekdalcjeaaGreat
/-
  What parts of a word are: known, of three letters at least, and together the word.
-/
namespace Go.Proofs.YtcmajekdalcjeaaGreat
open Go.RowKit
set_option linter.unusedVariables false
def catT : List ByteArray → ByteArray
  | [] => ⟨#[]⟩
  | x :: xs => x ++ catT xs
theorem empty_app51 (s : ByteArray) : (⟨#[]⟩ : ByteArray) ++ s = s := by apply ByteArray.ext; simp
theorem app_empty51 (s : ByteArray) : s ++ (⟨#[]⟩ : ByteArray) = s := by apply ByteArray.ext; simp
theorem cat_app : ∀ (xs ys : List ByteArray), catT (xs ++ ys) = catT xs ++ catT ys
  | [], ys => by rw [List.nil_append, catT, empty_app51]
  | x :: xs, ys => by rw [List.cons_append, catT, catT, cat_app xs ys, ByteArray.append_assoc]
theorem cat_take {xs : List ByteArray} {k : Nat} {x : ByteArray} (h : xs[k]? = some x) : catT (xs.take (k + 1)) = catT (xs.take k) ++ x := by
  rw [List.take_add_one, h, cat_app]
  simp only [Option.toList_some, catT, app_empty51]
theorem cut_join (s : ByteArray) (k : Nat) (h : k ≤ s.size) : s.extract 0 k ++ s.extract k s.size = s := by
  apply ByteArray.ext
  have h2 : k ≤ s.data.size := h
  simp
theorem pFrom_is {K : ByteArray → Bool} {R : ByteArray → List ByteArray} {s : ByteArray} : ∀ f k, k + f = s.size → 3 ≤ k → pFrom K R s f k ≠ [] → ∃ j, 3 ≤ j ∧ j < s.size ∧ K (s.extract 0 j) = true ∧ R (s.extract j s.size) ≠ [] ∧ pFrom K R s f k = s.extract 0 j :: R (s.extract j s.size)
  | 0, k, _, _, h => absurd rfl h
  | f + 1, k, hk, h3, h => by
    cases hK : K (s.extract 0 k) with
    | false =>
      rw [pFrom_skip hK] at h ⊢
      exact pFrom_is f (k + 1) (by omega) (by omega) h
    | true =>
      by_cases hR : R (s.extract k s.size) = []
      · rw [pFrom_none hR] at h ⊢
        exact pFrom_is f (k + 1) (by omega) (by omega) h
      · exact ⟨k, h3, by omega, hK, hR, pFrom_hit hK rfl hR⟩
theorem parts_are (K : ByteArray → Bool) : ∀ m s, partsN K (m + 1) s ≠ [] → (∀ x ∈ partsN K (m + 1) s, K x = true ∧ 3 ≤ x.size) ∧ catT (partsN K (m + 1) s) = s ∧ (partsN K (m + 1) s).length = m + 1
  | 0, s, h => by
    have e : partsN K (0 + 1) s = if decide (3 ≤ s.size) && K s then [s] else [] := rfl
    rw [e] at h ⊢
    split at h
    · next hc =>
      rw [if_pos hc]
      simp only [Bool.and_eq_true, decide_eq_true_eq] at hc
      exact ⟨fun x hx => by simp at hx; rw [hx]; exact ⟨hc.2, hc.1⟩, by simp only [catT, app_empty51], rfl⟩
    · exact absurd rfl h
  | m + 1, s, h => by
    have e : partsN K (m + 1 + 1) s = pFrom K (partsN K (m + 1)) s (s.size - 3) 3 := rfl
    rw [e] at h ⊢
    have hs : 3 ≤ s.size := by
      rcases Nat.lt_or_ge s.size 3 with h9 | h9
      · rw [show s.size - 3 = 0 by omega] at h
        exact absurd rfl h
      · exact h9
    obtain ⟨j, h1, h2, h3, h4, h5⟩ := pFrom_is _ _ (by omega) (Nat.le_refl _) h
    rw [h5]
    obtain ⟨k1, k2, k3⟩ := parts_are K m _ h4
    refine ⟨fun x hx => ?_, ?_, by rw [List.length_cons, k3]⟩
    · rcases List.mem_cons.1 hx with rfl | hx
      · exact ⟨h3, by rw [pre_size s j (by omega)]; exact h1⟩
      · exact k1 x hx
    · rw [catT, k2, cut_join s j (by omega)]
theorem po_are {xs : List Aff} {es : List (ByteArray × ByteArray)} {s : ByteArray} {L : List ByteArray} (hL : poT xs es s = L) (h : L ≠ []) : (∀ x ∈ L, knowsT xs es x = true ∧ 3 ≤ x.size) ∧ catT L = s ∧ (L.length = 2 ∨ L.length = 3) := by
  subst hL
  unfold poT fewT at h ⊢
  split at h
  · next hw =>
    rw [if_pos hw]
    by_cases h2 : partsN (knowsT xs es) 2 s = []
    · rw [partsT_three h2] at h ⊢
      obtain ⟨k1, k2, k3⟩ := parts_are (knowsT xs es) 2 s h
      exact ⟨k1, k2, .inr k3⟩
    · rw [partsT_two h2]
      obtain ⟨k1, k2, k3⟩ := parts_are (knowsT xs es) 1 s h2
      exact ⟨k1, k2, .inl k3⟩
  · exact absurd rfl h
end Go.Proofs.YtcmajekdalcjeaaGreat
/-
  A word as two or three words of a book: spec.l10Parts, l10Of, PartsOf.
-/
namespace Go.Proofs.YtcmajekdalcjeaaGreat
open Go.RowKit
set_option linter.unusedVariables false
theorem hasW_knows {xs : List Aff} {es : List (ByteArray × ByteArray)} (hb : bookT xs es = true) (s : ByteArray) : hasW (wordsTo xs es es.length) s = knowsT xs es s := by
  unfold knowsT
  rw [hb, Bool.true_and]
  cases h : hasW (wordsTo xs es es.length) s with
  | true => exact ((mem_wordsTo xs es s _).1 ((hasW_iff _ _).1 h)).symm
  | false =>
    cases h2 : knowsTo xs es s es.length with
    | false => rfl
    | true =>
      have := (hasW_iff _ _).2 ((mem_wordsTo xs es s _).2 h2)
      rw [h] at this
      cases this
theorem parts_dead {K : ByteArray → Bool} (h : ∀ s, K s = false) : ∀ m s, partsN K m s = []
  | 0, _ => rfl
  | 1, s => by rw [partsN, h]; simp
  | m + 2, s => by
    rw [partsN]
    have go : ∀ f k, pFrom K (partsN K (m + 1)) s f k = [] := by
      intro f
      induction f with
      | zero => intro k; rfl
      | succ f ih => intro k; rw [pFrom_skip (h _)]; exact ih _
    exact go _ _
theorem textsAt_nil502 (w : World) (t : TypeId) : TextsAt (w.alloc (.cells #[] t)) (.slice (some ⟨w.heap.size, 0, none⟩) 0 0) [] :=
  ⟨_, 0, rfl, Nat.le_refl _, Nat.zero_le _, fun i x hx => by simp at hx, fun hn => absurd rfl hn⟩
set_option maxRecDepth 100000 in
set_option maxHeartbeats 4000000 in
theorem l10Parts_any (WL : List ByteArray) (K : ByteArray → Bool) (HWK : ∀ s, hasW WL s = K s) : ∀ (m : Nat), m ≤ 2 → ∀ (w : World) (v : Value) (s : ByteArray), TextsAt w v WL → s.size ≤ 1000 → (m = 0 → 3 ≤ s.size) →
    Calls Tryz.prog 47 #[v, .string s, .int .i64 ((m + 1 : Nat) : Int)] w fun e w' => ∃ v', e = .returned v' ∧ TextsAt w' v' (partsN K (m + 1) s) ∧ Below w.heap.size w w'
  | 0, _, w, v, s, h, hs, h3 => by
    have HT : Hid (TextsAt w v WL) := h
    have hd3 : decide (3 ≤ s.size) = true := decide_eq_true (h3 rfl)
    have HS : Hid (s.size ≤ maxLen) := by show _ ≤ _; unfold maxLen; omega
    cases hk : K s with
    | false =>
      have HL : Hid (partsN K (0 + 1) s = []) := by show partsN _ 1 s = []; rw [partsN, hk, hd3]; rfl
      go_enter Tryz.func47, Tryz.ntmps47
      go_wp2_with fail
      refine (l2In_any w v WL s HT.out).mono ?_
      rintro e w1 ⟨rfl, hw1⟩
      have hw2 := hw1.symm
      clear hw1
      subst hw2
      rw [HWK, hk]
      go_wp2
      go_ret
      exact ⟨_, rfl, by rw [HL.out]; exact textsAt_nil502 _ _, (Below.refl _ _).alloc (Nat.le_refl _) _⟩
    | true =>
      have HL : Hid (partsN K (0 + 1) s = [s]) := by show partsN _ 1 s = [s]; rw [partsN, hk, hd3]; rfl
      go_enter Tryz.func47, Tryz.ntmps47
      go_wp2_with fail
      refine (l2In_any w v WL s HT.out).mono ?_
      rintro e w1 ⟨rfl, hw1⟩
      have hw2 := hw1.symm
      clear hw1
      subst hw2
      rw [HWK, hk]
      go_wp2
      go_ret
      refine ⟨_, rfl, ?_, (Below.refl _ _).alloc (Nat.le_refl _) _⟩
      rw [HL.out]
      exact (textsRow_of_owns (owns_one500 w s) rfl (fun i x hx => by
        match i, hx with
        | 0, hx => simp at hx; rw [← hx]; exact HS.out)).at
  | m + 1, hm, w, v, s, h, hs, _ => by
    obtain ⟨a0, cap0, rfl, hc0, hm0⟩ := h.form
    have HT : Hid (TextsAt w (.slice a0 WL.length cap0) WL) := h
    have IH : Hid (∀ (w : World) (v : Value) (s : ByteArray), TextsAt w v WL → s.size ≤ 1000 → (m = 0 → 3 ≤ s.size) → Calls Tryz.prog 47 #[v, .string s, .int .i64 ((m + 1 : Nat) : Int)] w fun e w' => ∃ v', e = .returned v' ∧ TextsAt w' v' (partsN K (m + 1) s) ∧ Below w.heap.size w w') := fun w v s h1 h2 h3 => l10Parts_any WL K HWK m (by omega) w v s h1 h2 h3
    obtain ⟨R, hR⟩ : ∃ R, partsN K (m + 1) = R := ⟨_, rfl⟩
    have HRT : Hid (∀ t, partsN K (m + 1) t = R t) := fun t => by rw [hR]
    have HRL : Hid (∀ t, (R t).length ≤ m + 1 ∧ ∀ x ∈ R t, x.size ≤ t.size) := fun t => by rw [← hR]; exact ⟨parts_len _ _ _, parts_fit _ _ _⟩
    have HRE : Hid (∀ f k, k ≤ s.size → s.size < k + 3 → pFrom K R s f k = []) := fun f k h1 h2 => by rw [← hR]; exact pFrom_end K m s f k h1 h2
    obtain ⟨N, hN⟩ : ∃ N : Nat, m + 1 + 1 = N := ⟨_, rfl⟩
    have HPF : Hid (partsN K N s = pFrom K R s (s.size - 3) 3) := by rw [← hN]; show partsN K (m + 2) s = _; rw [partsN, ← hR]
    have HM2 : Hid (m ≤ 1) := by show _ ≤ _; omega
    have HWK' : Hid (∀ s, hasW WL s = K s) := HWK
    have hNm : N ≤ 3 := by omega
    have hn1 : (((N : Nat) : Int) == 1) = false := by simp; omega
    have hn2 : IntKind.i64.wrap ((N : Int) - 1) = ((m + 1 : Nat) : Int) := by rw [IntWalk.i64_in _ (by omega)]; omega
    have hsz : (s.size : Int) ≤ 1000 := by omega
    obtain ⟨i3, hi3, hz3, hs3, hb3⟩ := info_parts Tryz.info_str405
    rw [hN]
    clear h hm hR hN
    go_enter Tryz.func47, Tryz.ntmps47
    go_wp2_with fail
    go_loopw [7] (fun i wr => ∃ k : Nat, 3 ≤ k ∧ (k ≤ s.size ∨ k = 3) ∧ i = .int .i64 k ∧ pFrom K R s (s.size - 3) 3 = pFrom K R s (s.size - k) k ∧ Below w.heap.size w wr) (fun i _ => s.size - (intOf i).toNat)
    case atStart => exact ⟨3, Nat.le_refl _, .inr rfl, rfl, rfl, Below.refl _ _⟩
    case round =>
      obtain ⟨k, hk3, hks, rfl, hp, hb⟩ := hrel
      have HP : Hid (pFrom K R s (s.size - 3) 3 = pFrom K R s (s.size - k) k) := hp
      have HB : Hid (Below w.heap.size w wr) := hb
      clear hp hb
      by_cases hlt : k + 3 ≤ s.size
      · have q3 : IntKind.i64.wrap ((k : Int) + 3) = ((k + 3 : Nat) : Int) := by rw [IntWalk.i64_in _ (by omega)]; omega
        have hlti : (k : Int) + 3 ≤ (s.size : Int) := by omega
        have hlt2 : (k : Int) < (s.size : Int) := by omega
        have hk0 : (0 : Int) ≤ (k : Int) := by omega
        obtain ⟨f, hf⟩ : ∃ f, s.size - k = f + 1 := ⟨s.size - k - 1, by omega⟩
        have HF : Hid (s.size - k = f + 1 ∧ s.size - (k + 1) = f) := ⟨hf, by omega⟩
        have q1 : IntKind.i64.wrap ((k : Int) + 1) = ((k + 1 : Nat) : Int) := by rw [IntWalk.i64_in _ (by omega)]; omega
        obtain ⟨A, hA⟩ : ∃ A, s.extract 0 k = A := ⟨_, rfl⟩
        obtain ⟨Z, hZ⟩ : ∃ Z, s.extract k s.size = Z := ⟨_, rfl⟩
        have HAS : Hid (A.size = k) := by show _ = _; rw [← hA]; exact pre_size s k (by omega)
        have HZS : Hid (Z.size = s.size - k) := by show _ = _; rw [← hZ]; exact ext_size50 s k (by omega)
        have HA : Hid (s.extract 0 k = A) := hA
        have HZ : Hid (s.extract k s.size = Z) := hZ
        clear hf hA hZ
        go_wp2_with fail
        try rw [HA.out]
        refine (l2In_any wr _ WL A (HT.out.below HB.out)).mono ?_
        rintro e w1 ⟨rfl, hw1⟩
        have hw2 := hw1.symm
        clear hw1
        subst hw2
        rw [HWK'.out]
        cases hka : K A with
        | false =>
          go_wp2
          go_roundw
          case rel => exact ⟨k + 1, by omega, .inl (by omega), by go_num, by rw [HP.out, HF.out.1, HF.out.2]; exact pFrom_skip (by rw [HA.out]; exact hka), HB.out⟩
          case measure => simp [intOf]; omega
        | true =>
          go_wp2_with fail
          try rw [HZ.out]
          refine (IH.out wr _ Z (HT.out.below HB.out) (by have := HZS.out; omega) (fun _ => by have := HZS.out; omega)).mono ?_
          rintro e w2 ⟨v2, rfl, hr2, hb2⟩
          rw [HRT.out] at hr2
          have HB2 : Hid (Below w.heap.size w w2) := HB.out.trans (hb2.mono HB.out.size)
          obtain ⟨a2, c2, rfl, hc2, hm2⟩ := hr2.form
          have HR2 : Hid (TextsAt w2 (.slice a2 (R Z).length c2) (R Z)) := hr2
          clear hr2 hb2
          by_cases hrz : R Z = []
          · have hl0 : (R Z).length = 0 := by rw [hrz]; rfl
            rw [hl0] at hc2 ⊢
            go_wp2
            go_roundw
            case rel => exact ⟨k + 1, by omega, .inl (by omega), by go_num, by rw [HP.out, HF.out.1, HF.out.2]; exact pFrom_none (by rw [HZ.out]; exact hrz), HB2.out⟩
            case measure => simp [intOf]; omega
          · have HRES : Hid (partsN K N s = A :: R Z) := by
              show _ = _
              rw [HPF.out, HP.out, HF.out.1, ← HA.out]
              exact pFrom_hit (by rw [HA.out]; exact hka) (by rw [HZ.out]) hrz
            obtain ⟨L, hL⟩ : ∃ L, R Z = L := ⟨_, rfl⟩
            have hln : 0 < L.length := by rw [← hL]; exact List.length_pos_iff.2 hrz
            have hlni : (0 : Int) < (L.length : Int) := by omega
            have hlm : L.length ≤ 1000 := by rw [← hL]; have h8 := (HRL.out Z).1; have h9 := HM2.out; omega
            have HFI : Hid (∀ x ∈ A :: L, x.size ≤ maxLen) := fun x hx => by
              have h1 := HAS.out
              have h2 := HZS.out
              unfold maxLen
              rcases List.mem_cons.1 hx with rfl | hx
              · omega
              · have := (HRL.out Z).2 x (by rw [hL]; exact hx)
                omega
            have HRES2 : Hid (partsN K N s = A :: L) := by show _ = _; rw [HRES.out, hL]
            rw [hL] at HR2 hc2 ⊢
            obtain ⟨b, off, cap1, x, hv, hbl, hx, _, _⟩ := HR2.out.at (k := 0) hln
            cases hv
            clear hx hL
            obtain ⟨w3, hw3⟩ : ∃ X, w2.alloc (.cells #[.string A] 9) = X := ⟨_, rfl⟩
            have hb3' : Below w2.heap.size w2 w3 := by rw [← hw3]; exact (Below.refl _ _).alloc (Nat.le_refl _) _
            have HB3 : Hid (Below w.heap.size w w3) := HB2.out.trans (hb3'.mono HB2.out.size)
            have HO3 : Hid (w3.ownsRow w2.heap.size 9 1 (.slice (some ⟨w2.heap.size, 0, none⟩) 1 1) [A].length (texts [A])) := by rw [← hw3]; exact owns_one500 w2 A
            have HR3 : Hid (TextsAt w3 (.slice (some ⟨b, off, none⟩) L.length c2) L) := HR2.out.below hb3'
            have hz23 : w2.heap.size ≤ w3.heap.size := hb3'.size
            have HW3 : Hid (w2.alloc (.cells #[.string A] 9) = w3) := hw3
            clear hb3' hw3
            unfold maxLen at hm2
            go_wp2_with (first
              | (rw [HA.out, HW3.out]; at_builtin; refine wpList_append_own _ rfl _ _ 29 rfl w2.heap.size 9 i3 (.string ⟨#[]⟩) 1 16 Tryz.underlying29 hi3 hz3 hs3 hb3 rfl (by decide) _ 1 _ rfl HO3.out ⟨b, off, none⟩ L.length c2 (texts L) rfl (by simp [texts]) (news_texts HR3.out) (texts_one405 L) (by unfold maxLen; omega) (by omega) hz23 ?_; intro v4 w4 hown hgrow hnil; have HB4 : Hid (Below w.heap.size w w4) := Below.grown HB3.out hgrow HB3.out.size (fun k' hk' => Nat.le_trans HB2.out.size (HO3.out.lt k' hk').1); have HO4 : Hid (w4.ownsRow w2.heap.size 9 1 v4 (A :: L).length (texts (A :: L))) := (by have e1 : (A :: L).length = 1 + L.length := (by simp <;> omega); rw [e1]; exact hown); clear hown hgrow hnil)
              | fail)
            go_ret
            exact ⟨_, rfl, by rw [HRES2.out]; exact (textsRow_of_owns HO4.out rfl (fits505 HFI.out)).at, HB4.out⟩
      · have HRES : Hid (partsN K N s = []) := by
          show _ = _
          rw [HPF.out, HP.out]
          rcases hks with h9 | h9
          · exact HRE.out _ _ h9 (by omega)
          · by_cases h8 : k ≤ s.size
            · exact HRE.out _ _ h8 (by omega)
            · rw [show s.size - k = 0 by omega]; rfl
        have q3 : IntKind.i64.wrap ((k : Int) + 3) = ((k + 3 : Nat) : Int) := by rw [IntWalk.i64_in _ (by omega)]; omega
        go_wp2
        go_ret
        exact ⟨_, rfl, by rw [HRES.out]; exact textsAt_nil502 _ _, HB.out.alloc HB.out.size _⟩
end Go.Proofs.YtcmajekdalcjeaaGreat
/-
  spec.l10Of, spec.PartsOf.
-/
namespace Go.Proofs.YtcmajekdalcjeaaGreat
open Go.RowKit
set_option linter.unusedVariables false
theorem poT_small (xs : List Aff) (es : List (ByteArray × ByteArray)) (s : ByteArray) : (poT xs es s).length ≤ 1048576 := Nat.le_trans (fewT_len _ _) (by decide)
set_option maxRecDepth 100000 in
set_option maxHeartbeats 1000000 in
theorem l10Of_any (WL : List ByteArray) (K : ByteArray → Bool) (HWK : ∀ s, hasW WL s = K s) (w : World) (v : Value) (s : ByteArray) (h : TextsAt w v WL) (hs : s.size ≤ 1000) :
    Calls Tryz.prog 25 #[v, .string s] w fun e w' => ∃ v', e = .returned v' ∧ TextsAt w' v' (partsT K s) ∧ Below w.heap.size w w' := by
  have HT : Hid (TextsAt w v WL) := h
  obtain ⟨L2, hL2⟩ : ∃ L, partsN K 2 s = L := ⟨_, rfl⟩
  obtain ⟨L3, hL3⟩ : ∃ L, partsN K 3 s = L := ⟨_, rfl⟩
  have H2 : Hid (partsN K (1 + 1) s = L2) := hL2
  have H3 : Hid (partsN K (2 + 1) s = L3) := hL3
  have HT2 : Hid (L2 ≠ [] → partsT K s = L2) := fun hn => by rw [partsT_two (by rw [hL2]; exact hn), hL2]
  have HT3 : Hid (L2 = [] → partsT K s = L3) := fun hn => by rw [partsT_three (by rw [hL2]; exact hn), hL3]
  have HP : Hid (∀ (m : Nat), m ≤ 2 → 1 ≤ m → ∀ (V : World), Below w.heap.size w V → Calls Tryz.prog 47 #[v, .string s, .int .i64 ((m + 1 : Nat) : Int)] V fun e w' => ∃ v', e = .returned v' ∧ TextsAt w' v' (partsN K (m + 1) s) ∧ Below V.heap.size V w') := fun m hm h1 V hV => l10Parts_any WL K HWK m hm V v s (HT.out.below hV) hs (fun h => by omega)
  clear h hL2 hL3
  go_enter Tryz.func25, Tryz.ntmps25
  go_wp2_with fail
  refine (HP.out 1 (by omega) (by omega) w (Below.refl _ _)).mono ?_
  rintro e w1 ⟨v1, rfl, h1, hb1⟩
  rw [H2.out] at h1
  obtain ⟨a, c, rfl, hc, hm⟩ := h1.form
  have HB1 : Hid (Below w.heap.size w w1) := hb1
  have HT1 : Hid (TextsAt w1 (.slice a L2.length c) L2) := h1
  clear h1 hb1
  by_cases hn : L2 = []
  · have hl0 : L2.length = 0 := by rw [hn]; rfl
    rw [hl0] at hc ⊢
    go_wp2_with fail
    refine (HP.out 2 (by omega) (by omega) w1 HB1.out).mono ?_
    rintro e w2 ⟨v2, rfl, h2, hb2⟩
    rw [H3.out] at h2
    have HB2 : Hid (Below w.heap.size w w2) := HB1.out.trans (hb2.mono HB1.out.size)
    have HT4 : Hid (TextsAt w2 v2 L3) := h2
    clear h2 hb2
    go_wp2
    go_ret
    exact ⟨_, rfl, by rw [HT3.out hn]; exact HT4.out, HB2.out⟩
  · have hl0 : 0 < L2.length := List.length_pos_iff.2 hn
    have hli : (0 : Int) < (L2.length : Int) := by omega
    go_wp2
    go_ret
    exact ⟨_, rfl, by rw [HT2.out hn]; exact HT1.out, HB1.out⟩
set_option maxRecDepth 100000 in
set_option maxHeartbeats 1000000 in
theorem specPartsOf_any (w : World) (va ve : Value) (xs : List Aff) (es : List (ByteArray × ByteArray)) (s : ByteArray) (ha : AffsAt w va xs) (he : EntsAt w ve es) (hs : s.size ≤ maxLen) :
    Calls Tryz.prog 8 #[.agg #[va, ve], .string s] w fun e w' => ∃ v, e = .returned v ∧ TextsAt w' v (poT xs es s) ∧ Below w.heap.size w w' := by
  obtain ⟨a, cap, rfl, hc, hm⟩ := ha.form
  obtain ⟨a', cap', rfl, hc', hm'⟩ := he.form
  have HA : Hid (AffsAt w (.slice a xs.length cap) xs) := ha
  have HE : Hid (EntsAt w (.slice a' es.length cap') es) := he
  have HS : Hid (s.size ≤ maxLen) := hs
  clear ha he hs
  have HB0 : Hid (Below w.heap.size w (w.alloc (.cells #[.slice a xs.length cap, .slice a' es.length cap'] 26))) := (Below.refl _ _).alloc (Nat.le_refl _) _
  have NO : Hid (∀ W : World, Below w.heap.size w W → poT xs es s = [] → TextsAt (W.alloc (.cells #[] 9)) (.slice (some ⟨W.heap.size, 0, none⟩) 0 0) (poT xs es s)) := fun W _ h => by rw [h]; exact textsAt_nil502 _ _
  cases hbk : bookT xs es with
  | false =>
    have HM : Hid (poT xs es s = []) := by
      show _ = _
      unfold poT fewT
      split
      · have hd : ∀ t, knowsT xs es t = false := fun t => by unfold knowsT; rw [hbk]; rfl
        rw [partsT_three (parts_dead hd 2 s), parts_dead hd 3 s]
      · rfl
    go_enter Tryz.func8, Tryz.ntmps8
    go_wp2_with fail
    refine (specBookOk_any _ _ _ xs es (HA.out.below HB0.out) (HE.out.below HB0.out)).mono ?_
    rintro e w1 ⟨rfl, hb1⟩
    rw [hbk]
    have HB1 : Hid (Below w.heap.size w w1) := HB0.out.trans (hb1.mono HB0.out.size)
    clear hb1
    go_wp2
    go_ret
    exact ⟨_, rfl, NO.out w1 HB1.out HM.out, HB1.out.alloc HB1.out.size _⟩
  | true =>
    have HBK : Hid (bookT xs es = true) := hbk
    cases hwk : wok s with
    | false =>
      have HM : Hid (poT xs es s = []) := by show _ = _; unfold poT fewT; rw [hwk]; rfl
      go_enter Tryz.func8, Tryz.ntmps8
      go_wp2_with fail
      refine (specBookOk_any _ _ _ xs es (HA.out.below HB0.out) (HE.out.below HB0.out)).mono ?_
      rintro e w1 ⟨rfl, hb1⟩
      rw [hbk]
      have HB1 : Hid (Below w.heap.size w w1) := HB0.out.trans (hb1.mono HB0.out.size)
      clear hb1
      go_wp2_with fail
      refine (l1Word_any s _ HS.out).mono ?_
      rintro e w2 ⟨rfl, hw1⟩
      have hw2 := hw1.symm
      clear hw1
      subst hw2
      rw [hwk]
      go_wp2
      go_ret
      exact ⟨_, rfl, NO.out w1 HB1.out HM.out, HB1.out.alloc HB1.out.size _⟩
    | true =>
      have hs12 := wok_small501 hwk
      have HM : Hid (poT xs es s = partsT (knowsT xs es) s) := by show _ = _; unfold poT fewT; rw [hwk]; rfl
      go_enter Tryz.func8, Tryz.ntmps8
      go_wp2_with fail
      refine (specBookOk_any _ _ _ xs es (HA.out.below HB0.out) (HE.out.below HB0.out)).mono ?_
      rintro e w1 ⟨rfl, hb1⟩
      rw [hbk]
      have HB1 : Hid (Below w.heap.size w w1) := HB0.out.trans (hb1.mono HB0.out.size)
      have c0 : w1.cell? ⟨w.heap.size, 0, none⟩ = some (.slice a xs.length cap) := (hb1.cell (p := ⟨w.heap.size, 0, none⟩) (by simp)).trans (by simp [go_sem])
      have c1 : w1.cell? ⟨w.heap.size, 1, none⟩ = some (.slice a' es.length cap') := (hb1.cell (p := ⟨w.heap.size, 1, none⟩) (by simp)).trans (by simp [go_sem])
      clear hb1
      go_wp2_with fail
      refine (l1Word_any s _ HS.out).mono ?_
      rintro e w2 ⟨rfl, hw1⟩
      have hw2 := hw1.symm
      clear hw1
      subst hw2
      rw [hwk]
      go_wp2_with fail
      refine (l2Words_any _ _ _ xs es (HA.out.below HB1.out) (HE.out.below HB1.out) HBK.out).mono ?_
      rintro e w3 ⟨v3, rfl, ht3, hb3⟩
      have HB3 : Hid (Below w.heap.size w w3) := HB1.out.trans (hb3.mono HB1.out.size)
      have HWS : Hid ((wordsTo xs es es.length).length ≤ 1000000 ∧ ∀ x ∈ wordsTo xs es es.length, x.size ≤ 12) := by
        have h := wordsT_small xs es
        unfold wordsT at h
        rw [if_pos HBK.out] at h
        exact ⟨by omega, h.2⟩
      have HT3 : Hid (TextsAt w3 v3 (wordsTo xs es es.length)) := textRow_at ht3 HWS.out.1 HWS.out.2
      clear ht3 hb3 c0 c1
      go_wp2_with fail
      refine (l10Of_any _ _ (hasW_knows HBK.out) w3 v3 s HT3.out (by omega)).mono ?_
      rintro e w4 ⟨v4, rfl, h4, hb4⟩
      have HB4 : Hid (Below w.heap.size w w4) := HB3.out.trans (hb4.mono HB3.out.size)
      have HT4 : Hid (TextsAt w4 v4 (poT xs es s)) := by show TextsAt _ _ _; rw [HM.out]; exact h4
      clear h4 hb4
      go_wp2
      go_ret
      exact ⟨_, rfl, HT4.out, HB4.out⟩
end Go.Proofs.YtcmajekdalcjeaaGreat
