/-
  Plain mathematics: texts of bytes in a range.
-/
namespace Go.Proofs.YthedglgljehmgaaGreatDoor
/-- Each byte of a text lies between two bounds. -/
def inr (lo hi : Int) (l : List UInt8) : Bool := l.all fun c => decide (lo ≤ (c.toNat : Int)) && decide ((c.toNat : Int) ≤ hi)
theorem inr_take_succ (lo hi : Int) (s : ByteArray) (k : Nat) (h : k < s.size) :
    inr lo hi (s.data.toList.take (k + 1)) = (inr lo hi (s.data.toList.take k) && (decide (lo ≤ (s[k].toNat : Int)) && decide ((s[k].toNat : Int) ≤ hi))) := by
  have e : s.data.toList.take (k + 1) = s.data.toList.take k ++ [s[k]] := by
    rw [List.take_succ_eq_append_getElem (by simpa using h)]; rfl
  rw [e]; simp [inr, List.all_append]
theorem inr_all (lo hi : Int) (s : ByteArray) (k : Nat) (h : s.size ≤ k) : inr lo hi (s.data.toList.take k) = inr lo hi s.data.toList := by
  rw [List.take_of_length_le (by simpa using h)]
theorem inr_bad (lo hi : Int) (s : ByteArray) (k : Nat) (h : k < s.size) (hb : (s[k].toNat : Int) < lo ∨ hi < (s[k].toNat : Int)) : inr lo hi s.data.toList = false := by
  have hm : s[k] ∈ s.data.toList := by
    have : s[k] = s.data[k] := rfl
    rw [this]; simp
  unfold inr
  rw [List.all_eq_false]
  refine ⟨s[k], hm, ?_⟩
  rcases hb with hb | hb <;> simp <;> omega
end Go.Proofs.YthedglgljehmgaaGreatDoor
/-
  Plain mathematics: how far two texts are, letter by letter.
-/
namespace Go.Proofs.YthedglgljehmgaaGreatDoor
/-- What it costs to change one letter into another one. -/
def cost (x y : Nat → UInt8) (i k : Nat) : Int := if x i = y k then 0 else 1
/-- The last two letters of both are each other's turned. -/
def tr (x y : Nat → UInt8) (i k : Nat) : Bool := decide (0 < i) && (decide (0 < k) && ((x i == y (k - 1)) && (x (i - 1) == y k)))
/-- How far the beginnings of lengths i and k are. -/
def D (x y : Nat → UInt8) : Nat → Nat → Int
  | 0, k => k
  | i + 1, 0 => i + 1
  | i + 1, k + 1 =>
    if tr x y i k then min (min (D x y i k + cost x y i k) (min (D x y i (k + 1) + 1) (D x y (i + 1) k + 1))) (D x y (i - 1) (k - 1) + 1)
    else min (D x y i k + cost x y i k) (min (D x y i (k + 1) + 1) (D x y (i + 1) k + 1))
theorem D_zero (x y : Nat → UInt8) (k : Nat) : D x y 0 k = k := by rw [D]
theorem D_left (x y : Nat → UInt8) (i : Nat) : D x y i 0 = i := by
  cases i with
  | zero => rw [D]
  | succ i => rw [D]; rfl
theorem D_succ (x y : Nat → UInt8) (i k : Nat) : D x y (i + 1) (k + 1) =
    if tr x y i k then min (min (D x y i k + cost x y i k) (min (D x y i (k + 1) + 1) (D x y (i + 1) k + 1))) (D x y (i - 1) (k - 1) + 1)
    else min (D x y i k + cost x y i k) (min (D x y i (k + 1) + 1) (D x y (i + 1) k + 1)) := by rw [D]
theorem cost_bd (x y : Nat → UInt8) (i k : Nat) : 0 ≤ cost x y i k ∧ cost x y i k ≤ 1 := by unfold cost; split <;> omega
theorem D_bd (x y : Nat → UInt8) : ∀ (n i k : Nat), i + k ≤ n → 0 ≤ D x y i k ∧ D x y i k ≤ (i : Int) + k := by
  intro n
  induction n with
  | zero => intro i k h; have : i = 0 := by omega
            subst this; rw [D_zero]; omega
  | succ n ih =>
    intro i k h
    cases i with
    | zero => rw [D_zero]; omega
    | succ i =>
      cases k with
      | zero => rw [D_left]; omega
      | succ k =>
        have h1 := ih i k (by omega)
        have h2 := ih i (k + 1) (by omega)
        have h3 := ih (i + 1) k (by omega)
        have h4 := ih (i - 1) (k - 1) (by omega)
        have hc := cost_bd x y i k
        rw [D_succ]
        split <;> omega
theorem D_pos (x y : Nat → UInt8) (i k : Nat) : 0 ≤ D x y i k := (D_bd x y _ i k (Nat.le_refl _)).1
theorem D_le (x y : Nat → UInt8) (i k : Nat) : D x y i k ≤ (i : Int) + k := (D_bd x y _ i k (Nat.le_refl _)).2
/-- Only the letters of the two beginnings count. -/
theorem D_congr (x x' y y' : Nat → UInt8) : ∀ (n i k : Nat), i + k ≤ n → (∀ j, j < i → x j = x' j) → (∀ j, j < k → y j = y' j) → D x y i k = D x' y' i k := by
  intro n
  induction n with
  | zero => intro i k h _ _; have : i = 0 := by omega
            subst this; rw [D_zero, D_zero]
  | succ n ih =>
    intro i k h hx hy
    cases i with
    | zero => rw [D_zero, D_zero]
    | succ i =>
      cases k with
      | zero => rw [D_left, D_left]
      | succ k =>
        have h1 := ih i k (by omega) (fun j hj => hx j (by omega)) (fun j hj => hy j (by omega))
        have h2 := ih i (k + 1) (by omega) (fun j hj => hx j (by omega)) (fun j hj => hy j (by omega))
        have h3 := ih (i + 1) k (by omega) (fun j hj => hx j (by omega)) (fun j hj => hy j (by omega))
        have h4 := ih (i - 1) (k - 1) (by omega) (fun j hj => hx j (by omega)) (fun j hj => hy j (by omega))
        have hc : cost x y i k = cost x' y' i k := by unfold cost; rw [hx i (by omega), hy k (by omega)]
        have ht : tr x y i k = tr x' y' i k := by unfold tr; rw [hx i (by omega), hy k (by omega), hx (i - 1) (by omega), hy (k - 1) (by omega)]
        rw [D_succ, D_succ, h1, h2, h3, h4, hc, ht]
/-- The letters of a text by their places. -/
def lt (s : ByteArray) (j : Nat) : UInt8 := s.data.toList.getD j 0
theorem lt_get (s : ByteArray) (j : Nat) (h : j < s.size) : lt s j = s[j] := by
  unfold lt
  rw [List.getD_eq_getElem?_getD, List.getElem?_eq_getElem (by simpa using h)]; rfl
theorem lt_extract (s : ByteArray) (n j : Nat) (h : j < n) : lt (s.extract 0 n) j = lt s j := by
  unfold lt
  have : (s.extract 0 n).data.toList = s.data.toList.take n := by
    simp
  rw [this]
  simp [List.getD_eq_getElem?_getD, h]
/-- How far two texts are. -/
def far (a b : ByteArray) : Int := D (lt a) (lt b) a.size b.size
/-- It is as far one way as back. -/
theorem cost_comm (x y : Nat → UInt8) (i k : Nat) : cost x y i k = cost y x k i := by
  unfold cost
  by_cases h : x i = y k
  · rw [if_pos h, if_pos h.symm]
  · rw [if_neg h, if_neg fun e => h e.symm]
theorem tr_comm (x y : Nat → UInt8) (i k : Nat) : tr x y i k = tr y x k i := by
  unfold tr
  rw [Bool.eq_iff_iff]
  simp only [Bool.and_eq_true, decide_eq_true_eq, beq_iff_eq]
  constructor
  · rintro ⟨a, b, c, d⟩; exact ⟨b, a, d.symm, c.symm⟩
  · rintro ⟨a, b, c, d⟩; exact ⟨b, a, d.symm, c.symm⟩
theorem D_comm (x y : Nat → UInt8) : ∀ (n i k : Nat), i + k ≤ n → D x y i k = D y x k i := by
  intro n
  induction n with
  | zero => intro i k h; have : i = 0 := by omega
            subst this; rw [D_zero, D_left]
  | succ n ih =>
    intro i k h
    cases i with
    | zero => rw [D_zero, D_left]
    | succ i =>
      cases k with
      | zero => rw [D_left, D_zero]
      | succ k =>
        have h1 := ih i k (by omega)
        have h2 := ih i (k + 1) (by omega)
        have h3 := ih (i + 1) k (by omega)
        have h4 := ih (i - 1) (k - 1) (by omega)
        rw [D_succ, D_succ, h1, h2, h3, h4, cost_comm x y, tr_comm x y]
        split <;> omega
end Go.Proofs.YthedglgljehmgaaGreatDoor
/-
  Plain mathematics: how a text of letters is written.
-/
namespace Go.Proofs.YthedglgljehmgaaGreatDoor
set_option linter.unusedVariables false
/-- A letter, small or capital. -/
def isLet (c : UInt8) : Bool := (decide (97 ≤ (c.toNat : Int)) && decide ((c.toNat : Int) ≤ 122)) || (decide (65 ≤ (c.toNat : Int)) && decide ((c.toNat : Int) ≤ 90))
/-- How many letters a text begins with. -/
def ahN (l : List UInt8) : Nat := (l.takeWhile isLet).length
def upN (l : List UInt8) : Nat := (l.filter fun c => decide (65 ≤ (c.toNat : Int)) && decide ((c.toNat : Int) ≤ 90)).length
def loN (l : List UInt8) : Nat := (l.filter fun c => decide (97 ≤ (c.toNat : Int)) && decide ((c.toNat : Int) ≤ 122)).length
/-- How a text is written: 0 none, 1 small, 2 first, 3 capitals, 4 mixed. -/
def caseL (l : List UInt8) : Int :=
  if l = [] ∨ l.all isLet = false then 0 else if inr 97 122 l then 1 else if inr 97 122 (l.drop 1) then 2 else if inr 65 90 l then 3 else 4
def caseT (s : ByteArray) : Int := caseL s.data.toList
theorem ahN_le (l : List UInt8) : ahN l ≤ l.length := by unfold ahN; exact (List.takeWhile_sublist _).length_le
theorem ahN_all (l : List UInt8) : ahN l < l.length ↔ l.all isLet = false := by
  induction l with
  | nil => simp [ahN]
  | cons a l ih =>
    unfold ahN at *
    by_cases h : isLet a = true
    · simp [h, ih]
    · simp [h]
theorem take_snoc (s : ByteArray) (k : Nat) (h : k < s.size) : s.data.toList.take (k + 1) = s.data.toList.take k ++ [s[k]] := by
  rw [List.take_succ_eq_append_getElem (by simpa using h)]; rfl
theorem all_take_snoc (s : ByteArray) (k : Nat) (h : k < s.size) (f : UInt8 → Bool) : (s.data.toList.take (k + 1)).all f = ((s.data.toList.take k).all f && f s[k]) := by
  rw [take_snoc s k h]; simp
theorem upN_snoc (l : List UInt8) (c : UInt8) : upN (l ++ [c]) = upN l + if 65 ≤ (c.toNat : Int) ∧ (c.toNat : Int) ≤ 90 then 1 else 0 := by
  unfold upN; rw [List.filter_append]
  by_cases h : 65 ≤ (c.toNat : Int) ∧ (c.toNat : Int) ≤ 90
  · rw [if_pos h]; simp [h.1, h.2]
  · rw [if_neg h]
    have : (decide (65 ≤ (c.toNat : Int)) && decide ((c.toNat : Int) ≤ 90)) = false := by simp; omega
    simp [this]
theorem loN_snoc (l : List UInt8) (c : UInt8) : loN (l ++ [c]) = loN l + if 97 ≤ (c.toNat : Int) ∧ (c.toNat : Int) ≤ 122 then 1 else 0 := by
  unfold loN; rw [List.filter_append]
  by_cases h : 97 ≤ (c.toNat : Int) ∧ (c.toNat : Int) ≤ 122
  · rw [if_pos h]; simp [h.1, h.2]
  · rw [if_neg h]
    have : (decide (97 ≤ (c.toNat : Int)) && decide ((c.toNat : Int) ≤ 122)) = false := by simp; omega
    simp [this]
theorem upN_le (l : List UInt8) : upN l ≤ l.length := List.length_filter_le _ _
theorem loN_le (l : List UInt8) : loN l ≤ l.length := List.length_filter_le _ _
theorem upN_zero (l : List UInt8) (h : l.all isLet = true) : upN l = 0 ↔ inr 97 122 l = true := by
  induction l with
  | nil => simp [upN, inr]
  | cons a l ih =>
    simp only [List.all_cons, Bool.and_eq_true] at h
    have := ih h.2
    have ha := h.1
    unfold isLet at ha
    simp only [Bool.or_eq_true, Bool.and_eq_true, decide_eq_true_eq] at ha
    unfold upN inr at *
    simp only [List.filter_cons, List.all_cons, Bool.and_eq_true, decide_eq_true_eq]
    split
    · simp; omega
    · rw [this]; simp at *; omega
theorem loN_zero (l : List UInt8) (h : l.all isLet = true) : loN l = 0 ↔ inr 65 90 l = true := by
  induction l with
  | nil => simp [loN, inr]
  | cons a l ih =>
    simp only [List.all_cons, Bool.and_eq_true] at h
    have := ih h.2
    have ha := h.1
    unfold isLet at ha
    simp only [Bool.or_eq_true, Bool.and_eq_true, decide_eq_true_eq] at ha
    unfold loN inr at *
    simp only [List.filter_cons, List.all_cons, Bool.and_eq_true, decide_eq_true_eq]
    split
    · simp; omega
    · rw [this]; simp at *; omega
theorem inr_cons (lo hi : Int) (a : UInt8) (l : List UInt8) : inr lo hi (a :: l) = ((decide (lo ≤ (a.toNat : Int)) && decide ((a.toNat : Int) ≤ hi)) && inr lo hi l) := by simp [inr]
/-- The specification's tests, of letters. -/
theorem caseL_counts (a : UInt8) (l : List UInt8) (h : (a :: l).all isLet = true) :
    caseL (a :: l) = if upN (a :: l) = 0 then 1 else if upN (a :: l) = 1 ∧ (a.toNat : Int) ≤ 90 then 2 else if loN (a :: l) = 0 then 3 else 4 := by
  have h1 := upN_zero (a :: l) h
  have h2 := loN_zero (a :: l) h
  simp only [List.all_cons, Bool.and_eq_true] at h
  have h3 := upN_zero l h.2
  have ha := h.1
  unfold isLet at ha
  simp only [Bool.or_eq_true, Bool.and_eq_true, decide_eq_true_eq] at ha
  have hu : upN (a :: l) = upN l + if 65 ≤ (a.toNat : Int) ∧ (a.toNat : Int) ≤ 90 then 1 else 0 := by
    unfold upN; rw [List.filter_cons]
    by_cases g : 65 ≤ (a.toNat : Int) ∧ (a.toNat : Int) ≤ 90
    · rw [if_pos g]; simp [g.1, g.2]
    · rw [if_neg g]
      have : (decide (65 ≤ (a.toNat : Int)) && decide ((a.toNat : Int) ≤ 90)) = false := by simp; omega
      simp [this]
  unfold caseL
  rw [if_neg (by simp [h.1]; simpa using h.2)]
  rw [List.drop_succ_cons, List.drop_zero]
  by_cases c1 : inr 97 122 (a :: l) = true
  · rw [if_pos c1, if_pos (h1.2 c1)]
  · rw [if_neg c1, if_neg (fun h => c1 (h1.1 h))]
    by_cases c2 : inr 97 122 l = true
    · have hz := h3.2 c2
      have hb : 65 ≤ (a.toNat : Int) ∧ (a.toNat : Int) ≤ 90 := by
        rcases ha with ha | ha
        · exact absurd (by rw [inr_cons]; simp [ha.1, ha.2, c2]) c1
        · exact ha
      rw [if_pos c2, if_pos ⟨by rw [hu, hz, if_pos hb], hb.2⟩]
    · have hz : upN l ≠ 0 := fun h => c2 (h3.1 h)
      have hn : ¬ (upN (a :: l) = 1 ∧ (a.toNat : Int) ≤ 90) := by
        rintro ⟨g1, g2⟩
        rw [hu] at g1
        rcases ha with ha | ha
        · omega
        · rw [if_pos ha] at g1; omega
      rw [if_neg c2, if_neg hn]
      by_cases c3 : inr 65 90 (a :: l) = true
      · rw [if_pos c3, if_pos (h2.2 c3)]
      · rw [if_neg c3, if_neg (fun h => c3 (h2.1 h))]
theorem caseL_bad (l : List UInt8) (h : l.all isLet = false) : caseL l = 0 := by unfold caseL; rw [if_pos (.inr h)]
theorem caseL_bounds (l : List UInt8) : 0 ≤ caseL l ∧ caseL l ≤ 4 := by unfold caseL; split <;> (try split) <;> (try split) <;> (try split) <;> omega
/-- A letter made capital. -/
def upB (c : UInt8) : UInt8 := if 97 ≤ c.toNat ∧ c.toNat ≤ 122 then c - 32 else c
def upL (l : List UInt8) : List UInt8 := l.map upB
theorem upB_nat (c : UInt8) (h : 97 ≤ c.toNat ∧ c.toNat ≤ 122) : (upB c).toNat = c.toNat - 32 := by
  unfold upB; rw [if_pos h]
  rw [UInt8.toNat_sub_of_le _ _ (by rw [UInt8.le_iff_toNat_le]; show 32 ≤ c.toNat; omega)]; rfl
theorem upB_else (c : UInt8) (h : ¬ (97 ≤ c.toNat ∧ c.toNat ≤ 122)) : upB c = c := by unfold upB; rw [if_neg h]
theorem inr_up (l : List UInt8) (h : inr 97 122 l = true) : inr 65 90 (upL l) = true := by
  induction l with
  | nil => rfl
  | cons a l ih =>
    rw [inr_cons] at h; simp only [Bool.and_eq_true, decide_eq_true_eq] at h
    show inr 65 90 (upB a :: upL l) = true
    rw [inr_cons, ih h.2]
    have := upB_nat a (by omega)
    simp only [Bool.and_eq_true, decide_eq_true_eq, and_true]; omega
theorem inr_letters (lo hi : Int) (l : List UInt8) (h : inr lo hi l = true) (hl : (lo = 97 ∧ hi = 122) ∨ (lo = 65 ∧ hi = 90)) : l.all isLet = true := by
  induction l with
  | nil => rfl
  | cons a l ih =>
    rw [inr_cons] at h; simp only [Bool.and_eq_true, decide_eq_true_eq] at h
    simp only [List.all_cons, Bool.and_eq_true]
    refine ⟨?_, ih h.2⟩
    unfold isLet; simp only [Bool.or_eq_true, Bool.and_eq_true, decide_eq_true_eq]
    rcases hl with ⟨rfl, rfl⟩ | ⟨rfl, rfl⟩ <;> omega
theorem caseL_lower (l : List UInt8) (h0 : l ≠ []) (h : inr 97 122 l = true) : caseL l = 1 := by
  unfold caseL
  have := inr_letters 97 122 l h (.inl ⟨rfl, rfl⟩)
  rw [if_neg (by simp [h0]; simpa using this), if_pos h]
/-- A word of two letters and more, its first letter made capital. -/
theorem caseL_first (a b : UInt8) (l : List UInt8) (h : inr 97 122 (a :: b :: l) = true) : caseL (upB a :: b :: l) = 2 := by
  rw [inr_cons] at h; simp only [Bool.and_eq_true, decide_eq_true_eq] at h
  have hu := upB_nat a (by omega)
  have hl := inr_letters 97 122 (b :: l) h.2 (.inl ⟨rfl, rfl⟩)
  unfold caseL
  rw [if_neg, if_neg, if_pos (by simpa using h.2)]
  · rw [inr_cons]; simp; intro; omega
  · simp only [List.all_cons, reduceCtorEq, false_or]
    rw [← List.all_cons, hl]
    have : isLet (upB a) = true := by unfold isLet; simp only [Bool.or_eq_true, Bool.and_eq_true, decide_eq_true_eq]; omega
    simp [this]
theorem caseL_upper (a b : UInt8) (l : List UInt8) (h : inr 97 122 (a :: b :: l) = true) : caseL (upL (a :: b :: l)) = 3 := by
  have hu := inr_up _ h
  have hl := inr_letters 65 90 _ hu (.inr ⟨rfl, rfl⟩)
  rw [inr_cons, inr_cons] at h; simp only [Bool.and_eq_true, decide_eq_true_eq] at h
  have ha := upB_nat a (by omega)
  have hb := upB_nat b (by omega)
  have e : upL (a :: b :: l) = upB a :: upB b :: upL l := rfl
  rw [e] at hu hl ⊢
  unfold caseL
  rw [if_neg (by simp only [reduceCtorEq, false_or]; rw [hl]; simp), if_neg, if_neg, if_pos hu]
  · rw [List.drop_succ_cons, List.drop_zero, inr_cons]; simp; intro; omega
  · rw [inr_cons]; simp; intro; omega
/-- Behind an 'x1' nothing is of letters alone. -/
theorem all_one (l : List UInt8) : (l ++ [49]).all isLet = false := by
  rw [List.all_append]; simp [isLet]
end Go.Proofs.YthedglgljehmgaaGreatDoor
