/-
  Plain mathematics: where letters lead in a machine.
-/
import Derived.Test.YtpjkgpglbbppjaaM21
namespace Go.Proofs.Ytpjkgpglbbppjaa
set_option linter.unusedVariables false
/-- Where a letter leads by some edges: the last of them that has it; -1 if there is none. -/
def lastT (es : List (Int × Int)) (c : Int) : Int := es.foldl (fun acc e => if e.1 = c then e.2 else acc) (-1)
theorem lastT_take {es : List (Int × Int)} {c : Int} {k : Nat} {e : Int × Int} (he : es[k]? = some e) : lastT (es.take (k + 1)) c = if e.1 = c then e.2 else lastT (es.take k) c := by
  unfold lastT
  rw [List.take_add_one, he]
  simp [List.foldl_append]
theorem foldl_none {c : Int} : ∀ (l : List (Int × Int)) (z : Int), (∀ e ∈ l, e.1 ≠ c) → l.foldl (fun acc e => if e.1 = c then e.2 else acc) z = z
  | [], z, _ => rfl
  | e :: l, z, h => by
    rw [List.foldl_cons, if_neg (h e (List.mem_cons_self ..))]
    exact foldl_none l z (fun x hx => h x (List.mem_cons_of_mem _ hx))
theorem eds_asc {first last : Int} {es : List (Int × Int)} (h : edsOk first last es = true) {i : Nat} {p : Int × Int} (hp : es[i]? = some p) : ∀ (j : Nat) (e : Int × Int), i < j → es[j]? = some e → p.1 < e.1
  | 0, e, hj, _ => absurd hj (by omega)
  | j + 1, e, hj, he => by
    have hlt := (List.getElem?_eq_some_iff.1 he).1
    have hq : es[j]? = some es[j] := List.getElem?_eq_getElem (by omega)
    have h1 : edOk first last es (j + 1) = true := by
      simp only [edsOk, List.all_eq_true, List.mem_range] at h
      exact h (j + 1) hlt
    rw [edOk_succ hq he] at h1
    simp only [Bool.and_eq_true, decide_eq_true_eq] at h1
    rcases Nat.lt_or_ge i j with hij | hij
    · have := eds_asc h hp j _ hij hq
      omega
    · obtain rfl : i = j := by omega
      rw [hp] at hq
      simp only [Option.some.injEq] at hq
      rw [← hq] at h1
      omega
theorem lastT_found {first last : Int} {es : List (Int × Int)} (h : edsOk first last es = true) {k : Nat} {e : Int × Int} (he : es[k]? = some e) {c : Int} (hc : e.1 = c) : lastT es c = e.2 := by
  have hs : es = es.take (k + 1) ++ es.drop (k + 1) := (List.take_append_drop _ _).symm
  have h1 := lastT_take (c := c) he
  rw [if_pos hc] at h1
  unfold lastT at h1 ⊢
  rw [hs, List.foldl_append, h1]
  refine foldl_none _ _ (fun x hx => ?_)
  obtain ⟨j, hj⟩ := List.getElem?_of_mem hx
  rw [List.getElem?_drop] at hj
  have := eds_asc h he (k + 1 + j) x (by omega) hj
  omega
theorem lastT_cases (es : List (Int × Int)) (c : Int) : lastT es c = -1 ∨ ∃ e ∈ es, e.1 = c ∧ lastT es c = e.2 := by
  unfold lastT
  suffices h : ∀ (l : List (Int × Int)) (z : Int), l.foldl (fun acc e => if e.1 = c then e.2 else acc) z = z ∨ ∃ e ∈ l, e.1 = c ∧ l.foldl (fun acc e => if e.1 = c then e.2 else acc) z = e.2 from h es (-1)
  intro l
  induction l with
  | nil => intro z; exact .inl rfl
  | cons x l ih =>
    intro z
    rw [List.foldl_cons]
    rcases ih (if x.1 = c then x.2 else z) with h | ⟨e, he, h1, h2⟩
    · by_cases hx : x.1 = c
      · rw [h, if_pos hx]
        exact .inr ⟨x, List.mem_cons_self .., hx, rfl⟩
      · rw [h, if_neg hx]
        exact .inl rfl
    · exact .inr ⟨e, List.mem_cons_of_mem _ he, h1, h2⟩
/-- Where a letter leads from a place; from -1 nowhere. -/
def goT (ss : List Sta) (a : Int) (c : Int) : Int := if a < 0 then -1 else lastT (ss.getD a.toNat default).es c
theorem goT_at {ss : List Sta} {p : Nat} {s : Sta} (hs : ss[p]? = some s) (c : Int) : goT ss p c = lastT s.es c := by
  unfold goT
  rw [if_neg (by omega)]
  simp [List.getD, hs]
theorem goT_neg (ss : List Sta) {a : Int} (h : a < 0) (c : Int) : goT ss a c = -1 := by unfold goT; rw [if_pos h]
/-- A place of a machine, or none. -/
def placeOk (ss : List Sta) (a : Int) : Prop := a = -1 ∨ ∃ p : Nat, a = p ∧ p < ss.length
theorem goT_ok {ss : List Sta} (h : stasOk ss = true) {a : Int} (ha : placeOk ss a) (c : Int) : placeOk ss (goT ss a c) := by
  rcases ha with rfl | ⟨p, rfl, hp⟩
  · exact .inl (goT_neg ss (by omega) c)
  · have hs : ss[p]? = some ss[p] := List.getElem?_eq_getElem hp
    rw [goT_at hs]
    rcases lastT_cases ss[p].es c with h1 | ⟨e, he, _, h2⟩
    · exact .inl h1
    · rw [h2]
      have := edsOk_mem (staOk_es (stasOk_at h hs)) he
      exact .inr ⟨e.2.toNat, by omega, by omega⟩
/-- Where a text leads from a place. -/
def runT (ss : List Sta) (l : List UInt8) (a : Int) : Int := l.foldl (fun a c => goT ss a (c.toNat : Int)) a
theorem runT_neg (ss : List Sta) : ∀ (l : List UInt8), runT ss l (-1) = -1
  | [] => rfl
  | c :: l => by
    show runT ss l (goT ss (-1) c.toNat) = -1
    rw [goT_neg ss (by omega)]
    exact runT_neg ss l
theorem runT_ok {ss : List Sta} (h : stasOk ss = true) : ∀ (l : List UInt8) (a : Int), placeOk ss a → placeOk ss (runT ss l a)
  | [], a, ha => ha
  | c :: l, a, ha => runT_ok h l _ (goT_ok h ha _)
theorem take_snoc22 (s : ByteArray) (k : Nat) (h : k < s.size) : s.data.toList.take (k + 1) = s.data.toList.take k ++ [s[k]] := by
  rw [List.take_succ_eq_append_getElem (by simpa using h)]; rfl
theorem runT_take (ss : List Sta) (s : ByteArray) (k : Nat) (h : k < s.size) : runT ss (s.data.toList.take (k + 1)) 0 = goT ss (runT ss (s.data.toList.take k) 0) (s[k].toNat : Int) := by
  rw [take_snoc22 s k h]
  simp [runT, List.foldl_append]
theorem runT_stop (ss : List Sta) (s : ByteArray) (k : Nat) (h : runT ss (s.data.toList.take k) 0 = -1) : runT ss s.data.toList 0 = -1 := by
  have : s.data.toList = s.data.toList.take k ++ s.data.toList.drop k := (List.take_append_drop _ _).symm
  rw [this]
  unfold runT at h ⊢
  rw [List.foldl_append, h]
  exact runT_neg ss _
theorem runT_all (ss : List Sta) (s : ByteArray) (k : Nat) (h : s.size ≤ k) : runT ss (s.data.toList.take k) 0 = runT ss s.data.toList 0 := by
  rw [List.take_of_length_le (by simpa using h)]
/-- The state at a place ends. -/
def endsT (ss : List Sta) (a : Int) : Bool := if a < 0 then false else (ss.getD a.toNat default).ends
theorem endsT_at {ss : List Sta} {p : Nat} {s : Sta} (hs : ss[p]? = some s) : endsT ss p = s.ends := by
  unfold endsT
  rw [if_neg (by omega)]
  simp [List.getD, hs]
/-- A machine that is ok knows a text. -/
def knT (ss : List Sta) (s : ByteArray) : Bool := endsT ss (runT ss s.data.toList 0)
end Go.Proofs.Ytpjkgpglbbppjaa
