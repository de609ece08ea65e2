/-
  Plain mathematics: a word is one step from another one just if it is so far.
-/
import Derived.Test.YtnbjjdbaddiijaaM6
import Derived.Test.YtnbjjdbaddiijaaM7
namespace Go.Proofs.Ytnbjjdbaddiijaa
set_option linter.unusedVariables false
def InsP (x y : Nat → UInt8) (i k : Nat) : Prop := k = i + 1 ∧ ∃ p, p ≤ i ∧ (∀ j, j < p → x j = y j) ∧ ∀ j, p ≤ j → j < i → x j = y (j + 1)
def DelP (x y : Nat → UInt8) (i k : Nat) : Prop := i = k + 1 ∧ ∃ p, p ≤ k ∧ (∀ j, j < p → x j = y j) ∧ ∀ j, p ≤ j → j < k → x (j + 1) = y j
def ChgP (x y : Nat → UInt8) (i k : Nat) : Prop := i = k ∧ ∃ p, p < i ∧ (∀ j, j < p → x j = y j) ∧ ∀ j, p < j → j < i → x j = y j
def SwpP (x y : Nat → UInt8) (i k : Nat) : Prop := i = k ∧ ∃ p, p + 1 < i ∧ (∀ j, j < p → x j = y j) ∧ x p = y (p + 1) ∧ x (p + 1) = y p ∧ ∀ j, p + 1 < j → j < i → x j = y j
def EqP (x y : Nat → UInt8) (i k : Nat) : Prop := i = k ∧ ∀ j, j < i → x j = y j
def OneP (x y : Nat → UInt8) (i k : Nat) : Prop := InsP x y i k ∨ DelP x y i k ∨ ChgP x y i k ∨ SwpP x y i k
theorem ext_letter (x y : Nat → UInt8) (i k : Nat) (he : x i = y k) (h : EqP x y i k ∨ OneP x y i k) : EqP x y (i + 1) (k + 1) ∨ OneP x y (i + 1) (k + 1) := by
  rcases h with ⟨rfl, h⟩ | ⟨rfl, p, hp, h1, h2⟩ | ⟨rfl, p, hp, h1, h2⟩ | ⟨rfl, p, hp, h1, h2⟩ | ⟨rfl, p, hp, h1, h2, h3, h4⟩
  · refine .inl ⟨rfl, fun j hj => ?_⟩
    by_cases e : j = i
    · rw [e, he]
    · exact h j (by omega)
  · refine .inr (.inl ⟨rfl, p, by omega, h1, fun j hj hj' => ?_⟩)
    by_cases e : j = i
    · rw [e, he]
    · exact h2 j hj (by omega)
  · refine .inr (.inr (.inl ⟨rfl, p, by omega, h1, fun j hj hj' => ?_⟩))
    by_cases e : j = k
    · rw [e, he]
    · exact h2 j hj (by omega)
  · refine .inr (.inr (.inr (.inl ⟨rfl, p, by omega, h1, fun j hj hj' => ?_⟩)))
    by_cases e : j = i
    · rw [e, he]
    · exact h2 j hj (by omega)
  · refine .inr (.inr (.inr (.inr ⟨rfl, p, by omega, h1, h2, h3, fun j hj hj' => ?_⟩)))
    by_cases e : j = i
    · rw [e, he]
    · exact h4 j hj (by omega)
theorem D_one (x y : Nat → UInt8) : ∀ (n i k : Nat), i + k ≤ n → D x y i k ≤ 1 → EqP x y i k ∨ OneP x y i k := by
  intro n
  induction n with
  | zero => intro i k h _; exact .inl ⟨by omega, fun j hj => absurd hj (by omega)⟩
  | succ n ih =>
    intro i k h h1
    cases i with
    | zero =>
      rw [D_zero] at h1
      by_cases hk : k = 0
      · exact .inl ⟨hk.symm, fun j hj => absurd hj (by omega)⟩
      · exact .inr (.inl ⟨by omega, 0, by omega, fun j hj => absurd hj (by omega), fun j _ hj => absurd hj (by omega)⟩)
    | succ i =>
      cases k with
      | zero =>
        rw [D_left] at h1
        exact .inr (.inr (.inl ⟨by omega, 0, by omega, fun j hj => absurd hj (by omega), fun j _ hj => absurd hj (by omega)⟩))
      | succ k =>
        have p1 := D_pos x y i k
        have p2 := D_pos x y i (k + 1)
        have p3 := D_pos x y (i + 1) k
        have p4 := D_pos x y (i - 1) (k - 1)
        have hc := cost_bd x y i k
        have hcases : D x y i k + cost x y i k ≤ 1 ∨ D x y i (k + 1) = 0 ∨ D x y (i + 1) k = 0 ∨ (tr x y i k = true ∧ D x y (i - 1) (k - 1) = 0) := by
          rw [D_succ] at h1
          cases ht : tr x y i k with
          | true =>
            rw [ht, if_pos rfl] at h1
            have h2 : D x y i k + cost x y i k ≤ 1 ∨ D x y i (k + 1) = 0 ∨ D x y (i + 1) k = 0 ∨ D x y (i - 1) (k - 1) = 0 := by omega
            rcases h2 with h2 | h2 | h2 | h2
            · exact .inl h2
            · exact .inr (.inl h2)
            · exact .inr (.inr (.inl h2))
            · exact .inr (.inr (.inr ⟨rfl, h2⟩))
          | false =>
            rw [ht, if_neg (by simp)] at h1
            have h2 : D x y i k + cost x y i k ≤ 1 ∨ D x y i (k + 1) = 0 ∨ D x y (i + 1) k = 0 := by omega
            rcases h2 with h2 | h2 | h2
            · exact .inl h2
            · exact .inr (.inl h2)
            · exact .inr (.inr (.inl h2))
        rcases hcases with h2 | h2 | h2 | ⟨ht, h2⟩
        · by_cases he : x i = y k
          · exact ext_letter x y i k he (ih i k (by omega) (by unfold cost at h2; rw [if_pos he] at h2; omega))
          · unfold cost at h2
            rw [if_neg he] at h2
            obtain ⟨e, hl⟩ := D_none x y _ i k (Nat.le_refl _) (by omega)
            subst e
            exact .inr (.inr (.inr (.inl ⟨rfl, i, by omega, hl, fun j hj hj' => absurd hj' (by omega)⟩)))
        · obtain ⟨e, hl⟩ := D_none x y _ i (k + 1) (Nat.le_refl _) h2
          subst e
          exact .inr (.inr (.inl ⟨rfl, k + 1, by omega, hl, fun j hj hj' => absurd hj' (by omega)⟩))
        · obtain ⟨e, hl⟩ := D_none x y _ (i + 1) k (Nat.le_refl _) h2
          subst e
          exact .inr (.inl ⟨rfl, i + 1, by omega, hl, fun j hj hj' => absurd hj' (by omega)⟩)
        · unfold tr at ht
          simp only [Bool.and_eq_true, decide_eq_true_eq, beq_iff_eq] at ht
          obtain ⟨hi, hk, e1, e2⟩ := ht
          obtain ⟨e, hl⟩ := D_none x y _ (i - 1) (k - 1) (Nat.le_refl _) h2
          have hik : i = k := by omega
          subst hik
          refine .inr (.inr (.inr (.inr ⟨rfl, i - 1, by omega, hl, ?_, ?_, fun j hj hj' => absurd hj' (by omega)⟩)))
          · rw [Nat.sub_add_cancel hi, e2]
          · rw [Nat.sub_add_cancel hi, e1]
theorem D_eq_step (x y : Nat → UInt8) (i k : Nat) (h : x i = y k) : D x y (i + 1) (k + 1) ≤ D x y i k := by
  have hc : cost x y i k = 0 := by unfold cost; rw [if_pos h]
  rw [D_succ]
  split <;> omega
theorem D_ext (x y : Nat → UInt8) (i k : Nat) : ∀ m, (∀ j, j < m → x (i + j) = y (k + j)) → D x y (i + m) (k + m) ≤ D x y i k
  | 0, _ => Int.le_refl _
  | m + 1, h => by
    have h1 := D_ext x y i k m (fun j hj => h j (by omega))
    have h2 := D_eq_step x y (i + m) (k + m) (h m (by omega))
    have h3 : D x y (i + (m + 1)) (k + (m + 1)) = D x y (i + m + 1) (k + m + 1) := rfl
    omega
theorem one_D (x y : Nat → UInt8) (i k : Nat) (h : OneP x y i k) : D x y i k ≤ 1 := by
  rcases h with ⟨rfl, p, hp, h1, h2⟩ | ⟨rfl, p, hp, h1, h2⟩ | ⟨rfl, p, hp, h1, h2⟩ | ⟨rfl, p, hp, h1, h2, h3, h4⟩
  · have a := D_ext x y p (p + 1) (i - p) (fun j hj => by rw [h2 (p + j) (by omega) (by omega)]; congr 1; omega)
    have b : D x y p (p + 1) ≤ 1 := by
      have hs := D_self x y p h1
      cases p with
      | zero => rw [D_zero]; omega
      | succ q => rw [D_succ]; split <;> omega
    rw [show p + (i - p) = i by omega, show p + 1 + (i - p) = i + 1 by omega] at a
    omega
  · have a := D_ext x y (p + 1) p (k - p) (fun j hj => by rw [← h2 (p + j) (by omega) (by omega)]; congr 1; omega)
    have b : D x y (p + 1) p ≤ 1 := by
      have hs := D_self x y p h1
      cases p with
      | zero => rw [D_left]; omega
      | succ q => rw [D_succ]; split <;> omega
    rw [show p + (k - p) = k by omega, show p + 1 + (k - p) = k + 1 by omega] at a
    omega
  · have a := D_ext x y (p + 1) (p + 1) (i - (p + 1)) (fun j hj => h2 (p + 1 + j) (by omega) (by omega))
    have b : D x y (p + 1) (p + 1) ≤ 1 := by
      have hs := D_self x y p h1
      have hc := cost_bd x y p p
      rw [D_succ]
      split <;> omega
    rw [show p + 1 + (i - (p + 1)) = i by omega] at a
    omega
  · have a := D_ext x y (p + 2) (p + 2) (i - (p + 2)) (fun j hj => h4 (p + 2 + j) (by omega) (by omega))
    have b : D x y (p + 2) (p + 2) ≤ 1 := by
      have hs := D_self x y p h1
      have ht : tr x y (p + 1) (p + 1) = true := by
        unfold tr
        simp [h2, h3]
      rw [show p + 2 = (p + 1) + 1 from rfl, D_succ, if_pos ht, show p + 1 - 1 = p from rfl]
      omega
    rw [show p + 2 + (i - (p + 2)) = i by omega] at a
    omega
/-! Texts by their letters. -/
theorem ext_lt {a b : ByteArray} (hs : a.size = b.size) (h : ∀ j, j < a.size → lt a j = lt b j) : a = b := by
  cases a with | mk a =>
  cases b with | mk b =>
  congr
  apply Array.ext hs
  intro i h1 h2
  have := h i h1
  rw [lt_get _ i h1, lt_get _ i h2] at this
  exact this
theorem lt_app (a b : ByteArray) (j : Nat) : lt (a ++ b) j = if j < a.size then lt a j else lt b (j - a.size) := by
  unfold lt
  have e : (a ++ b).data.toList = a.data.toList ++ b.data.toList := by simp
  have hl : a.data.toList.length = a.size := by simp
  rw [e, List.getD_eq_getElem?_getD, List.getD_eq_getElem?_getD, List.getD_eq_getElem?_getD]
  split
  · rw [List.getElem?_append_left (by omega)]
  · rw [List.getElem?_append_right (by omega), hl]
theorem lt_ext (s : ByteArray) (i n j : Nat) (h : i + j < n) : lt (s.extract i n) j = lt s (i + j) := by
  unfold lt
  rw [data_extract, List.getD_eq_getElem?_getD, List.getD_eq_getElem?_getD, List.getElem?_drop, List.getElem?_take_of_lt h]
theorem chr_sz (c : Nat) : (chr c).size = 1 := rfl
theorem lt_chr (c : Nat) : lt (chr c) 0 = UInt8.ofNat c := rfl
theorem ins_sz (s : ByteArray) (p c : Nat) (hp : p ≤ s.size) : (insT s p c).size = s.size + 1 := by
  unfold insT; rw [ByteArray.size_append, ByteArray.size_append, chr_sz]; simp only [ByteArray.size_extract]; omega
theorem chg_sz (s : ByteArray) (p c : Nat) (hp : p < s.size) : (chgT s p c).size = s.size := by
  unfold chgT; rw [ByteArray.size_append, ByteArray.size_append, chr_sz]; simp only [ByteArray.size_extract]; omega
theorem del_sz (s : ByteArray) (p : Nat) (hp : p < s.size) : (delT s p).size + 1 = s.size := by
  unfold delT; rw [ByteArray.size_append]; simp only [ByteArray.size_extract]; omega
theorem swp_sz (s : ByteArray) (p : Nat) (hp : p + 1 < s.size) : (swpT s p).size = s.size := by
  unfold swpT; rw [ByteArray.size_append, ByteArray.size_append, ByteArray.size_append]; simp only [ByteArray.size_extract]; omega
theorem head_sz (s : ByteArray) (p : Nat) (hp : p ≤ s.size) : (s.extract 0 p).size = p := by simp only [ByteArray.size_extract]; omega
theorem lt_ins (s : ByteArray) (p c j : Nat) (hp : p ≤ s.size) (hj : j < s.size + 1) : lt (insT s p c) j = if j < p then lt s j else if j = p then UInt8.ofNat c else lt s (j - 1) := by
  unfold insT
  rw [lt_app, lt_app, ByteArray.size_append, chr_sz, head_sz s p hp]
  by_cases h1 : j < p
  · rw [if_pos (by omega), if_pos h1, if_pos h1, lt_ext _ _ _ _ (by omega), Nat.zero_add]
  · by_cases h2 : j = p
    · subst h2
      rw [if_pos (by omega), if_neg h1, if_neg h1, if_pos rfl, Nat.sub_self, lt_chr]
    · rw [if_neg (by omega), if_neg h1, if_neg h2, lt_ext _ _ _ _ (by omega)]
      congr 1; omega
theorem lt_chg (s : ByteArray) (p c j : Nat) (hp : p < s.size) (hj : j < s.size) : lt (chgT s p c) j = if j = p then UInt8.ofNat c else lt s j := by
  unfold chgT
  rw [lt_app, lt_app, ByteArray.size_append, chr_sz, head_sz s p (by omega)]
  by_cases h1 : j < p
  · rw [if_pos (by omega), if_pos h1, if_neg (by omega), lt_ext _ _ _ _ (by omega), Nat.zero_add]
  · by_cases h2 : j = p
    · subst h2
      rw [if_pos (by omega), if_neg h1, if_pos rfl, Nat.sub_self, lt_chr]
    · rw [if_neg (by omega), if_neg h2, lt_ext _ _ _ _ (by omega)]
      congr 1; omega
theorem lt_del (s : ByteArray) (p j : Nat) (hp : p < s.size) (hj : j + 1 < s.size) : lt (delT s p) j = if j < p then lt s j else lt s (j + 1) := by
  unfold delT
  rw [lt_app, head_sz s p (by omega)]
  by_cases h1 : j < p
  · rw [if_pos h1, if_pos h1, lt_ext _ _ _ _ (by omega), Nat.zero_add]
  · rw [if_neg h1, if_neg h1, lt_ext _ _ _ _ (by omega)]
    congr 1; omega
theorem lt_swp (s : ByteArray) (p j : Nat) (hp : p + 1 < s.size) (hj : j < s.size) : lt (swpT s p) j = if j = p then lt s (p + 1) else if j = p + 1 then lt s p else lt s j := by
  unfold swpT
  have e1 : (s.extract (p + 1) (p + 2)).size = 1 := by simp only [ByteArray.size_extract]; omega
  have e2 : (s.extract p (p + 1)).size = 1 := by simp only [ByteArray.size_extract]; omega
  rw [lt_app, lt_app, lt_app, ByteArray.size_append, ByteArray.size_append, e1, e2, head_sz s p (by omega)]
  by_cases h1 : j < p
  · rw [if_pos (by omega), if_pos (by omega), if_pos h1, if_neg (by omega), if_neg (by omega), lt_ext _ _ _ _ (by omega), Nat.zero_add]
  · by_cases h2 : j = p
    · subst h2
      rw [if_pos (by omega), if_pos (by omega), if_neg h1, if_pos rfl, lt_ext _ _ _ _ (by omega)]
      congr 1; omega
    · by_cases h3 : j = p + 1
      · subst h3
        rw [if_pos (by omega), if_neg (by omega), if_neg h2, if_pos rfl, lt_ext _ _ _ _ (by omega)]
        congr 1; omega
      · rw [if_neg (by omega), if_neg h2, if_neg h3, lt_ext _ _ _ _ (by omega)]
        congr 1; omega
/-- A letter of a word. -/
theorem wok_lettr {s : ByteArray} (h : wok s = true) (j : Nat) (hj : j < s.size) : ∃ c, c < 26 ∧ lt s j = UInt8.ofNat (97 + c) := by
  simp only [wok, Bool.and_eq_true] at h
  have h1 : inr 97 122 s.data.toList = true := by
    first | exact h.1 | exact h.2 | exact h.1.1 | exact h.2.1 | exact h.2.2 | exact h.1.2
  have hm : lt s j ∈ s.data.toList := by
    rw [lt_get s j hj]
    exact Array.mem_toList_iff.2 (Array.getElem_mem (show j < s.data.size from hj))
  simp only [inr, List.all_eq_true, Bool.and_eq_true, decide_eq_true_eq] at h1
  have h2 := h1 _ hm
  refine ⟨(lt s j).toNat - 97, by omega, ?_⟩
  rw [show 97 + ((lt s j).toNat - 97) = (lt s j).toNat by omega]
  simp
theorem one_cand (a b : ByteArray) (hb : wok b = true) (h : OneP (lt a) (lt b) a.size b.size) : Cand a b (a.size + 1) := by
  rcases h with ⟨hs, p, hp, h1, h2⟩ | ⟨hs, p, hp, h1, h2⟩ | ⟨hs, p, hp, h1, h2⟩ | ⟨hs, p, hp, h1, h2, h3, h4⟩
  · obtain ⟨c, hc, e⟩ := wok_lettr hb p (by omega)
    refine ⟨p, by omega, .inl ⟨c, hc, ?_⟩⟩
    have hb' : b = insT a p (97 + c) := by
      refine ext_lt (by rw [ins_sz a p _ hp, hs]) fun j hj => ?_
      rw [lt_ins a p _ j hp (by omega)]
      split
      · rw [h1 j (by assumption)]
      · split
        · next e' => rw [e', e]
        · rw [h2 (j - 1) (by omega) (by omega)]
          congr 1; omega
    rw [hb']
    exact List.mem_cons_self
  · refine ⟨p, by omega, .inr ?_⟩
    have hb' : b = delT a p := by
      refine ext_lt (by have := del_sz a p (by omega); omega) fun j hj => ?_
      rw [lt_del a p j (by omega) (by omega)]
      split
      · rw [h1 j (by assumption)]
      · rw [h2 j (by omega) (by omega)]
    rw [hb']
    unfold candsE
    rw [if_pos (show p < a.size by omega)]
    exact List.mem_append_left _ (List.mem_singleton.2 rfl)
  · obtain ⟨c, hc, e⟩ := wok_lettr hb p (by omega)
    refine ⟨p, by omega, .inl ⟨c, hc, ?_⟩⟩
    have hb' : b = chgT a p (97 + c) := by
      refine ext_lt (by rw [chg_sz a p _ hp, hs]) fun j hj => ?_
      rw [lt_chg a p _ j hp (by omega)]
      split
      · next e' => rw [e', e]
      · by_cases h : j < p
        · rw [h1 j h]
        · rw [h2 j (by omega) (by omega)]
    rw [hb']
    unfold candsC
    rw [if_pos hp]
    exact List.mem_cons_of_mem _ (List.mem_singleton.2 rfl)
  · refine ⟨p, by omega, .inr ?_⟩
    have hb' : b = swpT a p := by
      refine ext_lt (by rw [swp_sz a p hp, hs]) fun j hj => ?_
      rw [lt_swp a p j hp (by omega)]
      split
      · next e => rw [e, h3]
      · split
        · next e => rw [e, h2]
        · by_cases h : j < p
          · rw [h1 j h]
          · rw [h4 j (by omega) (by omega)]
    rw [hb']
    unfold candsE
    rw [if_pos hp]
    exact List.mem_append_right _ (List.mem_singleton.2 rfl)
theorem cand_one (a b : ByteArray) (h : Cand a b (a.size + 1)) : OneP (lt a) (lt b) a.size b.size := by
  obtain ⟨p, hp, h⟩ := h
  rcases h with ⟨c, hc, h⟩ | h
  · unfold candsC at h
    rcases List.mem_cons.1 h with rfl | h
    · refine .inl ⟨ins_sz a p _ (by omega), p, by omega, fun j hj => ?_, fun j hj hj' => ?_⟩
      · rw [lt_ins a p _ j (by omega) (by omega), if_pos hj]
      · rw [lt_ins a p _ (j + 1) (by omega) (by omega), if_neg (by omega), if_neg (by omega)]
        rfl
    · split at h
      · next hp' =>
        rw [List.mem_singleton] at h
        subst h
        refine .inr (.inr (.inl ⟨(chg_sz a p _ hp').symm, p, hp', fun j hj => ?_, fun j hj hj' => ?_⟩))
        · rw [lt_chg a p _ j hp' (by omega), if_neg (by omega)]
        · rw [lt_chg a p _ j hp' (by omega), if_neg (by omega)]
      · cases h
  · unfold candsE at h
    rcases List.mem_append.1 h with h | h
    · split at h
      · next hp' =>
        rw [List.mem_singleton] at h
        subst h
        have hz := del_sz a p hp'
        refine .inr (.inl ⟨by omega, p, by omega, fun j hj => ?_, fun j hj hj' => ?_⟩)
        · rw [lt_del a p j hp' (by omega), if_pos hj]
        · rw [lt_del a p j hp' (by omega), if_neg (by omega)]
      · cases h
    · split at h
      · next hp' =>
        rw [List.mem_singleton] at h
        subst h
        refine .inr (.inr (.inr ⟨(swp_sz a p hp').symm, p, hp', fun j hj => ?_, ?_, ?_, fun j hj hj' => ?_⟩))
        · rw [lt_swp a p j hp' (by omega), if_neg (by omega), if_neg (by omega)]
        · rw [lt_swp a p (p + 1) hp' (by omega), if_neg (by omega), if_pos rfl]
        · rw [lt_swp a p p hp' (by omega), if_pos rfl]
        · rw [lt_swp a p j hp' (by omega), if_neg (by omega), if_neg (by omega)]
      · cases h
/-- All that is one step from a word is just so far. -/
theorem near_far (a b : ByteArray) (hb : wok b = true) : b ∈ near a ↔ far a b = 1 := by
  unfold near
  rw [nearTo_mem]
  have h0 := far_eq_zero a b
  have hp : 0 ≤ far a b := D_pos _ _ _ _
  constructor
  · rintro ⟨h, hne, _⟩
    have h1 : far a b ≤ 1 := one_D _ _ _ _ (cand_one a b h)
    have h2 : far a b ≠ 0 := fun e => hne (h0.1 e).symm
    omega
  · intro h
    have hne : b ≠ a := fun e => by
      have := h0.2 e.symm
      omega
    refine ⟨?_, hne, hb⟩
    rcases D_one (lt a) (lt b) _ a.size b.size (Nat.le_refl _) (show far a b ≤ 1 by omega) with ⟨e, hl⟩ | h1
    · exact absurd (ext_lt e hl).symm hne
    · exact one_cand a b hb h1
theorem near_both (a b : ByteArray) (ha : wok a = true) (hb : wok b = true) : b ∈ near a ↔ a ∈ near b := by
  rw [near_far a b hb, near_far b a ha]
  unfold far
  rw [D_comm (lt a) (lt b) _ _ _ (Nat.le_refl _)]
end Go.Proofs.Ytnbjjdbaddiijaa
