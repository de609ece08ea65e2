/-
  Plain mathematics: the text of a rank.
-/
import Derived.Test.YtlpcmikljhoabaaM23
namespace Go.Proofs.Ytlpcmikljhoabaa
set_option linter.unusedVariables false
/-- What edges know together. -/
def sumD (D : Nat → Int) : List (Int × Int) → Int
  | [] => 0
  | e :: es => D e.2.toNat + sumD D es
theorem sumD_nonneg {D : Nat → Int} (hD : ∀ j, 0 ≤ D j ∧ D j ≤ 1000000000) : ∀ es, 0 ≤ sumD D es
  | [] => Int.le_refl _
  | e :: es => by have := sumD_nonneg hD es; have := (hD e.2.toNat).1; simp only [sumD]; omega
theorem sumD_append (D : Nat → Int) : ∀ (a b : List (Int × Int)), sumD D (a ++ b) = sumD D a + sumD D b
  | [], b => by simp [sumD]
  | e :: a, b => by simp only [List.cons_append, sumD, sumD_append D a b]; omega
theorem sumD_take_succ {D : Nat → Int} {es : List (Int × Int)} {i : Nat} {e : Int × Int} (he : es[i]? = some e) : sumD D (es.take (i + 1)) = sumD D (es.take i) + D e.2.toNat := by
  rw [List.take_add_one, he, Option.toList_some, sumD_append]
  simp [sumD]
theorem sumD_take_mono {D : Nat → Int} (hD : ∀ j, 0 ≤ D j ∧ D j ≤ 1000000000) (es : List (Int × Int)) {i j : Nat} (h : i ≤ j) : sumD D (es.take i) ≤ sumD D (es.take j) := by
  have : es.take j = es.take i ++ (es.drop i).take (j - i) := by
    rw [← List.take_add, show i + (j - i) = j by omega]
  rw [this, sumD_append]
  have := sumD_nonneg hD ((es.drop i).take (j - i))
  omega
theorem foldE_cnt_le {D : Nat → Int} (hD : ∀ j, 0 ≤ D j ∧ D j ≤ 1000000000) : ∀ (es : List (Int × Int)) (z : Int), z ≤ 1000000000 → z ≤ foldE cntF D es z
  | [], z, _ => Int.le_refl _
  | e :: es, z, hz => by
    show z ≤ foldE cntF D es (cntF z (D e.2.toNat))
    have h1 := hD e.2.toNat
    have h2 : z ≤ cntF z (D e.2.toNat) ∧ cntF z (D e.2.toNat) ≤ 1000000000 := by unfold cntF; split <;> omega
    have := foldE_cnt_le hD es _ h2.2
    omega
theorem foldE_cnt_exact {D : Nat → Int} (hD : ∀ j, 0 ≤ D j ∧ D j ≤ 1000000000) : ∀ (es : List (Int × Int)) (z : Int), foldE cntF D es z < 1000000000 → foldE cntF D es z = z + sumD D es
  | [], z, _ => by simp [foldE, sumD]
  | e :: es, z, h => by
    have h' : foldE cntF D es (cntF z (D e.2.toNat)) < 1000000000 := h
    have h2 : cntF z (D e.2.toNat) ≤ 1000000000 := by unfold cntF; split <;> omega
    have h3 := foldE_cnt_le hD es _ h2
    have h4 : cntF z (D e.2.toNat) = z + D e.2.toNat := by
      by_cases hh : z + D e.2.toNat < 1000000000
      · exact if_pos hh
      · have h5 : cntF z (D e.2.toNat) = 1000000000 := if_neg hh
        rw [h5] at h3 h'
        omega
    show foldE cntF D es (cntF z (D e.2.toNat)) = _
    rw [foldE_cnt_exact hD es _ h', h4]
    simp only [sumD]
    omega
theorem tab_stays (f : Int → Int → Int) (z : Bool → Int) (ss : List Sta) (k j : Nat) (hk : k ≤ ss.length) (hj : ss.length - k ≤ j) (hjl : j < ss.length) : ∀ d, k + d ≤ ss.length → tab f z ss (k + d) j = tab f z ss k j
  | 0, _ => rfl
  | d + 1, h => by
    show (if j = ss.length - 1 - (k + d) then _ else tab f z ss (k + d) j) = _
    rw [if_neg (by omega)]
    exact tab_stays f z ss k j hk hj hjl d (by omega)
theorem foldE_congr {f : Int → Int → Int} {D E : Nat → Int} : ∀ (es : List (Int × Int)) (z : Int), (∀ e ∈ es, D e.2.toNat = E e.2.toNat) → foldE f D es z = foldE f E es z
  | [], z, _ => rfl
  | e :: es, z, h => by
    show foldE f D es (f z (D e.2.toNat)) = foldE f E es (f z (E e.2.toNat))
    rw [h e (List.mem_cons_self ..)]
    exact foldE_congr es _ (fun x hx => h x (List.mem_cons_of_mem _ hx))
theorem cTab_at {ss : List Sta} (hok : stasOk ss = true) {p : Nat} {s : Sta} (hs : ss[p]? = some s) : cTab ss p = foldE cntF (cTab ss) s.es (cntZ s.ends) := by
  have hp := (List.getElem?_eq_some_iff.1 hs).1
  have h1 : cTab ss p = tab cntF cntZ ss (ss.length - p) p := by
    have := tab_stays cntF cntZ ss (ss.length - p) p (by omega) (by omega) hp p (by omega)
    rw [show ss.length - p + p = ss.length by omega] at this
    exact this
  rw [h1, tab_next cntF cntZ ss p s hs p, if_pos rfl]
  refine foldE_congr _ _ (fun e he => ?_)
  have hb := edsOk_mem (staOk_es (stasOk_at hok hs)) he
  have := tab_stays cntF cntZ ss (ss.length - (p + 1)) e.2.toNat (by omega) (by omega) (by omega) (p + 1) (by omega)
  rw [show ss.length - (p + 1) + (p + 1) = ss.length by omega] at this
  exact this.symm
theorem cTab_exact {ss : List Sta} (hok : stasOk ss = true) {p : Nat} {s : Sta} (hs : ss[p]? = some s) (h : cTab ss p < 1000000000) : cTab ss p = cntZ s.ends + sumD (cTab ss) s.es := by
  rw [cTab_at hok hs] at h ⊢
  exact foldE_cnt_exact (cTab_bound ss) _ _ h
/-- Which edge a rank goes on by, and the rank behind it. -/
def pickT (D : Nat → Int) : List (Int × Int) → Int → Option ((Int × Int) × Int)
  | [], _ => none
  | e :: es, r => if r < D e.2.toNat then some (e, r) else pickT D es (r - D e.2.toNat)
theorem pick_some {D : Nat → Int} (hD : ∀ j, 0 ≤ D j ∧ D j ≤ 1000000000) : ∀ (es : List (Int × Int)) (r : Int), 0 ≤ r → r < sumD D es →
    ∃ i e, es[i]? = some e ∧ pickT D es r = some (e, r - sumD D (es.take i)) ∧ sumD D (es.take i) ≤ r ∧ r < sumD D (es.take i) + D e.2.toNat
  | [], r, h0, h => by simp [sumD] at h; omega
  | e :: es, r, h0, h => by
    unfold pickT
    by_cases hr : r < D e.2.toNat
    · exact ⟨0, e, rfl, by simp [hr, sumD], by simpa [sumD] using h0, by simpa [sumD] using hr⟩
    · obtain ⟨i, x, h1, h2, h3, h4⟩ := pick_some hD es (r - D e.2.toNat) (by omega) (by simp only [sumD] at h; omega)
      refine ⟨i + 1, x, h1, ?_, ?_, ?_⟩
      · rw [if_neg hr, h2]
        simp only [List.take_succ_cons, sumD]
        congr 2
        omega
      · simp only [List.take_succ_cons, sumD]; omega
      · simp only [List.take_succ_cons, sumD]; omega
theorem pick_drop {D : Nat → Int} {es : List (Int × Int)} {j : Nat} {e : Int × Int} (he : es[j]? = some e) (r : Int) : pickT D (es.drop j) r = if r < D e.2.toNat then some (e, r) else pickT D (es.drop (j + 1)) (r - D e.2.toNat) := by
  have hlt := (List.getElem?_eq_some_iff.1 he).1
  have : es.drop j = e :: es.drop (j + 1) := by
    rw [List.drop_eq_getElem_cons hlt]
    congr 1
    exact (List.getElem?_eq_some_iff.1 he).2
  rw [this]
  rfl
theorem sumT_all {D : Nat → Int} {c : Int} : ∀ (l : List (Int × Int)) (z : Int), (∀ e ∈ l, e.1 < c) → sumT D l c z = z + sumD D l
  | [], z, _ => by simp [sumT, sumD]
  | e :: l, z, h => by
    show sumT D l c (if e.1 < c then z + D e.2.toNat else z) = _
    rw [if_pos (h e (List.mem_cons_self ..)), sumT_all l _ (fun x hx => h x (List.mem_cons_of_mem _ hx))]
    simp only [sumD]
    omega
theorem sumT_none {D : Nat → Int} {c : Int} : ∀ (l : List (Int × Int)) (z : Int), (∀ e ∈ l, ¬ e.1 < c) → sumT D l c z = z
  | [], z, _ => rfl
  | e :: l, z, h => by
    show sumT D l c (if e.1 < c then z + D e.2.toNat else z) = _
    rw [if_neg (h e (List.mem_cons_self ..))]
    exact sumT_none l _ (fun x hx => h x (List.mem_cons_of_mem _ hx))
theorem sumT_letter {first last : Int} {es : List (Int × Int)} (h : edsOk first last es = true) {i : Nat} {e : Int × Int} (he : es[i]? = some e) (D : Nat → Int) (z : Int) : sumT D es e.1 z = z + sumD D (es.take i) := by
  have hs : es = es.take i ++ es.drop i := (List.take_append_drop _ _).symm
  have h1 : sumT D (es.take i ++ es.drop i) e.1 z = sumT D (es.drop i) e.1 (sumT D (es.take i) e.1 z) := by unfold sumT; exact List.foldl_append
  rw [← hs] at h1
  rw [h1, sumT_all (es.take i) z ?_, sumT_none (es.drop i) _ ?_]
  · intro x hx
    obtain ⟨j, hj⟩ := List.getElem?_of_mem hx
    rw [List.getElem?_drop] at hj
    rcases Nat.eq_zero_or_pos j with h0 | h0
    · subst h0
      rw [Nat.add_zero, he] at hj
      cases hj
      omega
    · have := eds_asc h he (i + j) x (by omega) hj
      omega
  · intro x hx
    obtain ⟨j, hj⟩ := List.getElem?_of_mem hx
    rw [List.getElem?_take] at hj
    split at hj
    · exact eds_asc h hj i e (by assumption) he
    · cases hj
/-- The text of a rank, from a place on. -/
def wdT (ss : List Sta) (D : Nat → Int) : Nat → Nat → Int → List UInt8
  | 0, _, _ => []
  | f + 1, p, r => if (ss.getD p default).ends = true ∧ r = 0 then [] else
      match pickT D (ss.getD p default).es (r - cntZ (ss.getD p default).ends) with
      | none => []
      | some (e, r') => UInt8.ofNat e.1.toNat :: wdT ss D f e.2.toNat r'
theorem wdT_succ (ss : List Sta) (D : Nat → Int) (f p : Nat) (r : Int) : wdT ss D (f + 1) p r = if (ss.getD p default).ends = true ∧ r = 0 then [] else
      match pickT D (ss.getD p default).es (r - cntZ (ss.getD p default).ends) with
      | none => []
      | some (e, r') => UInt8.ofNat e.1.toNat :: wdT ss D f e.2.toNat r' := rfl
theorem wdT_end {ss : List Sta} {D : Nat → Int} {f p : Nat} {s : Sta} (hs : ss[p]? = some s) (he : s.ends = true) : wdT ss D (f + 1) p 0 = [] := by
  unfold wdT
  simp [List.getD, hs, he]
/-- One step of a rank. -/
theorem word_step {ss : List Sta} (hok : stasOk ss = true) {p : Nat} {s : Sta} (hs : ss[p]? = some s) {r : Int} (h0 : 0 ≤ r) (hr : r < cTab ss p) (hb : cTab ss p < 1000000000) (hne : ¬ (s.ends = true ∧ r = 0)) :
    ∃ (i l t : Nat), s.es[i]? = some ((l : Int), (t : Int)) ∧ 97 ≤ l ∧ l ≤ 122 ∧ p < t ∧ t < ss.length ∧ cntZ s.ends + sumD (cTab ss) (s.es.take i) ≤ r ∧ r < cntZ s.ends + sumD (cTab ss) (s.es.take i) + cTab ss t ∧ cTab ss t < 1000000000 ∧
      pickT (cTab ss) s.es (r - cntZ s.ends) = some (((l : Int), (t : Int)), r - cntZ s.ends - sumD (cTab ss) (s.es.take i)) ∧
      ∀ f, wdT ss (cTab ss) (f + 1) p r = UInt8.ofNat l :: wdT ss (cTab ss) f t (r - cntZ s.ends - sumD (cTab ss) (s.es.take i)) := by
  have hex := cTab_exact hok hs hb
  have hz : cntZ s.ends ≤ r := by
    cases he : s.ends with
    | false => simpa [cntZ] using h0
    | true =>
      have : r ≠ 0 := fun h => hne ⟨he, h⟩
      simp [cntZ]; omega
  obtain ⟨i, e, h1, h2, h3, h4⟩ := pick_some (cTab_bound ss) s.es (r - cntZ s.ends) (by omega) (by omega)
  have hed := edsOk_at (staOk_es (stasOk_at hok hs)) h1
  obtain ⟨l, t⟩ := e
  simp only at hed h4
  obtain ⟨l, rfl⟩ : ∃ l' : Nat, l = l' := ⟨l.toNat, by omega⟩
  obtain ⟨t, rfl⟩ : ∃ t' : Nat, t = t' := ⟨t.toNat, by omega⟩
  rw [Int.toNat_natCast] at h4
  have hle : sumD (cTab ss) (s.es.take i) + cTab ss t ≤ sumD (cTab ss) s.es := by
    have h5 := sumD_take_succ (D := cTab ss) h1
    have h6 := sumD_take_mono (cTab_bound ss) s.es (i := i + 1) (j := s.es.length) (by have := (List.getElem?_eq_some_iff.1 h1).1; omega)
    rw [List.take_length] at h6
    simp only [Int.toNat_natCast] at h5
    omega
  have h7 := sumD_nonneg (cTab_bound ss) (s.es.take i)
  have h8 := cntZ_bound s.ends
  refine ⟨i, l, t, h1, by omega, by omega, by omega, by omega, by omega, by omega, by omega, h2, fun f => ?_⟩
  have hg : ss.getD p default = s := by simp [List.getD, hs]
  rw [wdT_succ, hg, if_neg hne, h2]
  simp
theorem place_end {ss : List Sta} {p : Nat} {s : Sta} (hs : ss[p]? = some s) : ss.getD p default = s := by simp [List.getD, hs]
end Go.Proofs.Ytlpcmikljhoabaa
