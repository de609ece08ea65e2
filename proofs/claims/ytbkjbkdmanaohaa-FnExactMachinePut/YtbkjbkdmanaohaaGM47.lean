/-
  Plain mathematics: machines: states and edges; what is ok; tables worked out from the last state on.
-/
import Derived.WalkKit
namespace Go.Proofs.Ytbkjbkdmanaohaa
set_option linter.unusedVariables false
/-- A state: whether a text ends there, and its edges, a letter and a place each. -/
structure Sta where
  ends : Bool
  es : List (Int × Int)
instance : Inhabited Sta := ⟨⟨false, []⟩⟩
/-- Not too great to be handed over. -/
def SmallS (ss : List Sta) : Prop := ss.length ≤ 1048576 ∧ ∀ (i : Nat) (s : Sta), ss[i]? = some s → s.es.length ≤ 1048576
/-- The edge at a place is ok. -/
def edOk (first last : Int) (es : List (Int × Int)) (k : Nat) : Bool :=
  match es[k]? with
  | none => true
  | some e => decide (97 ≤ e.1) && decide (e.1 ≤ 122) && decide (first ≤ e.2) && decide (e.2 < last) &&
    (match k with
     | 0 => true
     | j + 1 => match es[j]? with | none => true | some p => decide (p.1 < e.1))
def edsOk (first last : Int) (es : List (Int × Int)) : Bool := (List.range es.length).all (edOk first last es)
theorem edsOk_true {first last : Int} {es : List (Int × Int)} (h : ∀ j, j < es.length → edOk first last es j = true) : edsOk first last es = true := by
  simp only [edsOk, List.all_eq_true, List.mem_range]
  exact h
theorem edsOk_false {first last : Int} {es : List (Int × Int)} (j : Nat) (hj : j < es.length) (h : edOk first last es j = false) : edsOk first last es = false := by
  simp only [edsOk, List.all_eq_false, List.mem_range]
  exact ⟨j, hj, by rw [h]; decide⟩
theorem edsOk_at {first last : Int} {es : List (Int × Int)} (h : edsOk first last es = true) {j : Nat} {e : Int × Int} (he : es[j]? = some e) : 97 ≤ e.1 ∧ e.1 ≤ 122 ∧ first ≤ e.2 ∧ e.2 < last := by
  simp only [edsOk, List.all_eq_true, List.mem_range] at h
  have := h j (List.getElem?_eq_some_iff.1 he).1
  simp only [edOk, he, Bool.and_eq_true, decide_eq_true_eq] at this
  omega
theorem edsOk_mem {first last : Int} {es : List (Int × Int)} (h : edsOk first last es = true) {e : Int × Int} (he : e ∈ es) : 97 ≤ e.1 ∧ e.1 ≤ 122 ∧ first ≤ e.2 ∧ e.2 < last := by
  obtain ⟨j, hj⟩ := List.getElem?_of_mem he
  exact edsOk_at h hj
theorem edOk_zero {first last : Int} {es : List (Int × Int)} {e : Int × Int} (he : es[0]? = some e) : edOk first last es 0 = (decide (97 ≤ e.1) && decide (e.1 ≤ 122) && decide (first ≤ e.2) && decide (e.2 < last)) := by
  simp [edOk, he]
theorem edOk_succ {first last : Int} {es : List (Int × Int)} {j : Nat} {p e : Int × Int} (hp : es[j]? = some p) (he : es[j + 1]? = some e) :
    edOk first last es (j + 1) = (decide (97 ≤ e.1) && decide (e.1 ≤ 122) && decide (first ≤ e.2) && decide (e.2 < last) && decide (p.1 < e.1)) := by
  simp [edOk, hp, he]
/-- The state at a place is ok, of a machine of n states. -/
def staOk (n : Nat) (i : Nat) (s : Sta) : Bool := edsOk (i + 1) n s.es && !(decide (0 < i) && !s.ends && s.es.isEmpty)
def stasOk (ss : List Sta) : Bool := (List.range ss.length).all fun i => match ss[i]? with | none => true | some s => staOk ss.length i s
theorem stasOk_true {ss : List Sta} (h : ∀ i s, ss[i]? = some s → staOk ss.length i s = true) : stasOk ss = true := by
  simp only [stasOk, List.all_eq_true, List.mem_range]
  intro i hi
  cases hs : ss[i]? with
  | none => rfl
  | some s => exact h i s hs
theorem stasOk_false {ss : List Sta} {i : Nat} {s : Sta} (hs : ss[i]? = some s) (h : staOk ss.length i s = false) : stasOk ss = false := by
  simp only [stasOk, List.all_eq_false, List.mem_range]
  exact ⟨i, (List.getElem?_eq_some_iff.1 hs).1, by simp [hs, h]⟩
theorem stasOk_at {ss : List Sta} (h : stasOk ss = true) {i : Nat} {s : Sta} (hs : ss[i]? = some s) : staOk ss.length i s = true := by
  simp only [stasOk, List.all_eq_true, List.mem_range] at h
  have := h i (List.getElem?_eq_some_iff.1 hs).1
  simpa [hs] using this
/-- What the edges of a state make of a table. -/
def foldE (f : Int → Int → Int) (D : Nat → Int) (es : List (Int × Int)) (z : Int) : Int := es.foldl (fun acc e => f acc (D e.2.toNat)) z
theorem foldE_take (f : Int → Int → Int) (D : Nat → Int) (es : List (Int × Int)) (z : Int) {k : Nat} {e : Int × Int} (he : es[k]? = some e) :
    foldE f D (es.take (k + 1)) z = f (foldE f D (es.take k) z) (D e.2.toNat) := by
  unfold foldE
  rw [List.take_add_one, he]
  simp [List.foldl_append]
/-- The table behind k states from the last on. -/
def tab (f : Int → Int → Int) (z : Bool → Int) (ss : List Sta) : Nat → Nat → Int
  | 0 => fun _ => 0
  | k + 1 => fun j => if j = ss.length - 1 - k then foldE f (tab f z ss k) (ss.getD j default).es (z (ss.getD j default).ends) else tab f z ss k j
/-- How deep a machine is: what one edge makes. -/
def deepF (a d : Int) : Int := if a < d + 1 then d + 1 else a
/-- How many texts: what one edge makes. -/
def cntF (a d : Int) : Int := if a + d < 1000000000 then a + d else 1000000000
def deepZ (_ : Bool) : Int := 0
def cntZ (b : Bool) : Int := if b then 1 else 0
theorem foldE_deep_bound {D : Nat → Int} {m : Int} (hD : ∀ j, 0 ≤ D j ∧ D j ≤ m) (es : List (Int × Int)) : ∀ z, 0 ≤ z → z ≤ m + 1 → 0 ≤ foldE deepF D es z ∧ foldE deepF D es z ≤ m + 1 := by
  induction es with
  | nil => intro z h0 h1; exact ⟨h0, h1⟩
  | cons e es ih =>
    intro z h0 h1
    show 0 ≤ foldE deepF D es (deepF z (D e.2.toNat)) ∧ foldE deepF D es (deepF z (D e.2.toNat)) ≤ m + 1
    have := hD e.2.toNat
    apply ih <;> unfold deepF <;> split <;> omega
theorem tab_deep_bound (ss : List Sta) : ∀ k j, 0 ≤ tab deepF deepZ ss k j ∧ tab deepF deepZ ss k j ≤ k
  | 0, j => by simp [tab]
  | k + 1, j => by
    unfold tab
    split
    · exact foldE_deep_bound (m := k) (tab_deep_bound ss k) _ _ (by simp [deepZ]) (by simp [deepZ]; omega)
    · have := tab_deep_bound ss k j
      omega
theorem foldE_cnt_bound {D : Nat → Int} (hD : ∀ j, 0 ≤ D j ∧ D j ≤ 1000000000) (es : List (Int × Int)) : ∀ z, 0 ≤ z → z ≤ 1000000000 → 0 ≤ foldE cntF D es z ∧ foldE cntF D es z ≤ 1000000000 := by
  induction es with
  | nil => intro z h0 h1; exact ⟨h0, h1⟩
  | cons e es ih =>
    intro z h0 h1
    show 0 ≤ foldE cntF D es (cntF z (D e.2.toNat)) ∧ foldE cntF D es (cntF z (D e.2.toNat)) ≤ 1000000000
    have := hD e.2.toNat
    apply ih <;> unfold cntF <;> split <;> omega
theorem tab_cnt_bound (ss : List Sta) : ∀ k j, 0 ≤ tab cntF cntZ ss k j ∧ tab cntF cntZ ss k j ≤ 1000000000
  | 0, j => by simp [tab]
  | k + 1, j => by
    unfold tab
    split
    · refine foldE_cnt_bound (tab_cnt_bound ss k) _ _ ?_ ?_ <;> (unfold cntZ; split <;> omega)
    · exact tab_cnt_bound ss k j
/-- A machine is ok. -/
def machT (ss : List Sta) : Bool := decide (1 ≤ ss.length) && decide (ss.length ≤ 400) && stasOk ss && decide (tab deepF deepZ ss ss.length 0 ≤ 12)
end Go.Proofs.Ytbkjbkdmanaohaa
/-
  Plain mathematics: tables of machines, a state at a time.
-/
namespace Go.Proofs.Ytbkjbkdmanaohaa
set_option linter.unusedVariables false
theorem tab_low (f : Int → Int → Int) (z : Bool → Int) (ss : List Sta) : ∀ (k j : Nat), k ≤ ss.length → j < ss.length - k → tab f z ss k j = 0
  | 0, j, _, _ => rfl
  | k + 1, j, hk, hj => by
    unfold tab
    rw [if_neg (by omega)]
    exact tab_low f z ss k j (by omega) (by omega)
theorem tab_next (f : Int → Int → Int) (z : Bool → Int) (ss : List Sta) (p : Nat) (s : Sta) (hs : ss[p]? = some s) (j : Nat) :
    tab f z ss (ss.length - p) j = if j = p then foldE f (tab f z ss (ss.length - (p + 1))) s.es (z s.ends) else tab f z ss (ss.length - (p + 1)) j := by
  have hp := (List.getElem?_eq_some_iff.1 hs).1
  rw [show ss.length - p = (ss.length - (p + 1)) + 1 by omega]
  show (if j = ss.length - 1 - (ss.length - (p + 1)) then _ else _) = _
  rw [show ss.length - 1 - (ss.length - (p + 1)) = p by omega]
  by_cases e : j = p
  · rw [if_pos e, if_pos e, e]
    simp [List.getD, hs]
  · rw [if_neg e, if_neg e]
/-- The greater of two. -/
def mx (x y : Int) : Int := if y > x then y else x
theorem mx_deep (a d : Int) : mx a (d + 1) = deepF a d := by
  unfold mx deepF
  rfl
theorem mx_le (a d : Int) : a ≤ mx a d ∧ d ≤ mx a d ∧ (mx a d = a ∨ mx a d = d) := by unfold mx; split <;> omega
/-- The row of a table while a state is worked out. -/
def midRow (D : Nat → Int) (p : Nat) (acc : Int) : Nat → Value := fun j => .int .i64 (if j = p then acc else D j)
theorem midRow_at (D : Nat → Int) (p : Nat) (acc : Int) : midRow D p acc p = .int .i64 acc := by simp [midRow]
theorem midRow_to (D : Nat → Int) (p : Nat) (acc : Int) {j : Nat} (h : j ≠ p) : midRow D p acc j = .int .i64 (D j) := by simp [midRow, h]
/-- A table as cells. -/
def tabRow (D : Nat → Int) : Nat → Value := fun j => .int .i64 (D j)
theorem staOk_es {n i : Nat} {s : Sta} (h : staOk n i s = true) : edsOk (i + 1) n s.es = true := by
  simp only [staOk, Bool.and_eq_true] at h
  exact h.1
/-- Where an edge leads. -/
theorem edge_to {ss : List Sta} (h : stasOk ss = true) {p : Nat} {s : Sta} (hs : ss[p]? = some s) {k : Nat} {e : Int × Int} (he : s.es[k]? = some e) : ∃ t : Nat, e.2 = t ∧ p < t ∧ t < ss.length := by
  have := edsOk_at (staOk_es (stasOk_at h hs)) he
  exact ⟨e.2.toNat, by omega, by omega, by omega⟩
/-- The lesser of two, as min and as l1Least have it. -/
def mnc (x y : Int) : Int := if y < x then y else x
def lsc (x y : Int) : Int := if x < y then x else y
theorem mnc_cnt (a d : Int) : mnc (a + d) 1000000000 = cntF a d := by unfold mnc cntF; split <;> split <;> omega
theorem lsc_cnt (a d : Int) : lsc (a + d) 1000000000 = cntF a d := rfl
theorem foldE_cnt_take {D : Nat → Int} (hD : ∀ j, 0 ≤ D j ∧ D j ≤ 1000000000) (es : List (Int × Int)) (b : Bool) : 0 ≤ foldE cntF D es (cntZ b) ∧ foldE cntF D es (cntZ b) ≤ 1000000000 := by
  refine foldE_cnt_bound hD es _ ?_ ?_ <;> (unfold cntZ; split <;> omega)
end Go.Proofs.Ytbkjbkdmanaohaa
/-
  Plain mathematics: where letters lead in a machine.
-/
namespace Go.Proofs.Ytbkjbkdmanaohaa
set_option linter.unusedVariables false
/-- Where a letter leads by some edges: the last of them that has it; -1 if there is none. -/
def lastT (es : List (Int × Int)) (c : Int) : Int := es.foldl (fun acc e => if e.1 = c then e.2 else acc) (-1)
theorem lastT_take {es : List (Int × Int)} {c : Int} {k : Nat} {e : Int × Int} (he : es[k]? = some e) : lastT (es.take (k + 1)) c = if e.1 = c then e.2 else lastT (es.take k) c := by
  unfold lastT
  rw [List.take_add_one, he]
  simp [List.foldl_append]
theorem foldl_none {c : Int} : ∀ (l : List (Int × Int)) (z : Int), (∀ e ∈ l, e.1 ≠ c) → l.foldl (fun acc e => if e.1 = c then e.2 else acc) z = z
  | [], z, _ => rfl
  | e :: l, z, h => by
    rw [List.foldl_cons, if_neg (h e (List.mem_cons_self ..))]
    exact foldl_none l z (fun x hx => h x (List.mem_cons_of_mem _ hx))
theorem eds_asc {first last : Int} {es : List (Int × Int)} (h : edsOk first last es = true) {i : Nat} {p : Int × Int} (hp : es[i]? = some p) : ∀ (j : Nat) (e : Int × Int), i < j → es[j]? = some e → p.1 < e.1
  | 0, e, hj, _ => absurd hj (by omega)
  | j + 1, e, hj, he => by
    have hlt := (List.getElem?_eq_some_iff.1 he).1
    have hq : es[j]? = some es[j] := List.getElem?_eq_getElem (by omega)
    have h1 : edOk first last es (j + 1) = true := by
      simp only [edsOk, List.all_eq_true, List.mem_range] at h
      exact h (j + 1) hlt
    rw [edOk_succ hq he] at h1
    simp only [Bool.and_eq_true, decide_eq_true_eq] at h1
    rcases Nat.lt_or_ge i j with hij | hij
    · have := eds_asc h hp j _ hij hq
      omega
    · obtain rfl : i = j := by omega
      rw [hp] at hq
      simp only [Option.some.injEq] at hq
      rw [← hq] at h1
      omega
theorem lastT_found {first last : Int} {es : List (Int × Int)} (h : edsOk first last es = true) {k : Nat} {e : Int × Int} (he : es[k]? = some e) {c : Int} (hc : e.1 = c) : lastT es c = e.2 := by
  have hs : es = es.take (k + 1) ++ es.drop (k + 1) := (List.take_append_drop _ _).symm
  have h1 := lastT_take (c := c) he
  rw [if_pos hc] at h1
  unfold lastT at h1 ⊢
  rw [hs, List.foldl_append, h1]
  refine foldl_none _ _ (fun x hx => ?_)
  obtain ⟨j, hj⟩ := List.getElem?_of_mem hx
  rw [List.getElem?_drop] at hj
  have := eds_asc h he (k + 1 + j) x (by omega) hj
  omega
theorem lastT_cases (es : List (Int × Int)) (c : Int) : lastT es c = -1 ∨ ∃ e ∈ es, e.1 = c ∧ lastT es c = e.2 := by
  unfold lastT
  suffices h : ∀ (l : List (Int × Int)) (z : Int), l.foldl (fun acc e => if e.1 = c then e.2 else acc) z = z ∨ ∃ e ∈ l, e.1 = c ∧ l.foldl (fun acc e => if e.1 = c then e.2 else acc) z = e.2 from h es (-1)
  intro l
  induction l with
  | nil => intro z; exact .inl rfl
  | cons x l ih =>
    intro z
    rw [List.foldl_cons]
    rcases ih (if x.1 = c then x.2 else z) with h | ⟨e, he, h1, h2⟩
    · by_cases hx : x.1 = c
      · rw [h, if_pos hx]
        exact .inr ⟨x, List.mem_cons_self .., hx, rfl⟩
      · rw [h, if_neg hx]
        exact .inl rfl
    · exact .inr ⟨e, List.mem_cons_of_mem _ he, h1, h2⟩
/-- Where a letter leads from a place; from -1 nowhere. -/
def goT (ss : List Sta) (a : Int) (c : Int) : Int := if a < 0 then -1 else lastT (ss.getD a.toNat default).es c
theorem goT_at {ss : List Sta} {p : Nat} {s : Sta} (hs : ss[p]? = some s) (c : Int) : goT ss p c = lastT s.es c := by
  unfold goT
  rw [if_neg (by omega)]
  simp [List.getD, hs]
theorem goT_neg (ss : List Sta) {a : Int} (h : a < 0) (c : Int) : goT ss a c = -1 := by unfold goT; rw [if_pos h]
/-- A place of a machine, or none. -/
def placeOk (ss : List Sta) (a : Int) : Prop := a = -1 ∨ ∃ p : Nat, a = p ∧ p < ss.length
theorem goT_ok {ss : List Sta} (h : stasOk ss = true) {a : Int} (ha : placeOk ss a) (c : Int) : placeOk ss (goT ss a c) := by
  rcases ha with rfl | ⟨p, rfl, hp⟩
  · exact .inl (goT_neg ss (by omega) c)
  · have hs : ss[p]? = some ss[p] := List.getElem?_eq_getElem hp
    rw [goT_at hs]
    rcases lastT_cases ss[p].es c with h1 | ⟨e, he, _, h2⟩
    · exact .inl h1
    · rw [h2]
      have := edsOk_mem (staOk_es (stasOk_at h hs)) he
      exact .inr ⟨e.2.toNat, by omega, by omega⟩
/-- Where a text leads from a place. -/
def runT (ss : List Sta) (l : List UInt8) (a : Int) : Int := l.foldl (fun a c => goT ss a (c.toNat : Int)) a
theorem runT_neg (ss : List Sta) : ∀ (l : List UInt8), runT ss l (-1) = -1
  | [] => rfl
  | c :: l => by
    show runT ss l (goT ss (-1) c.toNat) = -1
    rw [goT_neg ss (by omega)]
    exact runT_neg ss l
theorem runT_ok {ss : List Sta} (h : stasOk ss = true) : ∀ (l : List UInt8) (a : Int), placeOk ss a → placeOk ss (runT ss l a)
  | [], a, ha => ha
  | c :: l, a, ha => runT_ok h l _ (goT_ok h ha _)
theorem take_snoc22 (s : ByteArray) (k : Nat) (h : k < s.size) : s.data.toList.take (k + 1) = s.data.toList.take k ++ [s[k]] := by
  rw [List.take_succ_eq_append_getElem (by simpa using h)]; rfl
theorem runT_take (ss : List Sta) (s : ByteArray) (k : Nat) (h : k < s.size) : runT ss (s.data.toList.take (k + 1)) 0 = goT ss (runT ss (s.data.toList.take k) 0) (s[k].toNat : Int) := by
  rw [take_snoc22 s k h]
  simp [runT, List.foldl_append]
theorem runT_stop (ss : List Sta) (s : ByteArray) (k : Nat) (h : runT ss (s.data.toList.take k) 0 = -1) : runT ss s.data.toList 0 = -1 := by
  have : s.data.toList = s.data.toList.take k ++ s.data.toList.drop k := (List.take_append_drop _ _).symm
  rw [this]
  unfold runT at h ⊢
  rw [List.foldl_append, h]
  exact runT_neg ss _
theorem runT_all (ss : List Sta) (s : ByteArray) (k : Nat) (h : s.size ≤ k) : runT ss (s.data.toList.take k) 0 = runT ss s.data.toList 0 := by
  rw [List.take_of_length_le (by simpa using h)]
/-- The state at a place ends. -/
def endsT (ss : List Sta) (a : Int) : Bool := if a < 0 then false else (ss.getD a.toNat default).ends
theorem endsT_at {ss : List Sta} {p : Nat} {s : Sta} (hs : ss[p]? = some s) : endsT ss p = s.ends := by
  unfold endsT
  rw [if_neg (by omega)]
  simp [List.getD, hs]
/-- A machine that is ok knows a text. -/
def knT (ss : List Sta) (s : ByteArray) : Bool := endsT ss (runT ss s.data.toList 0)
end Go.Proofs.Ytbkjbkdmanaohaa
/-
  Plain mathematics: ranks.
-/
namespace Go.Proofs.Ytbkjbkdmanaohaa
set_option linter.unusedVariables false
/-- What edges of lesser letters know, and more. -/
def sumT (D : Nat → Int) (es : List (Int × Int)) (c : Int) (z : Int) : Int := es.foldl (fun acc e => if e.1 < c then acc + D e.2.toNat else acc) z
theorem sumT_take {D : Nat → Int} {es : List (Int × Int)} {c z : Int} {k : Nat} {e : Int × Int} (he : es[k]? = some e) :
    sumT D (es.take (k + 1)) c z = if e.1 < c then sumT D (es.take k) c z + D e.2.toNat else sumT D (es.take k) c z := by
  unfold sumT
  rw [List.take_add_one, he]
  simp [List.foldl_append]
theorem sumT_add (D : Nat → Int) (c : Int) : ∀ (es : List (Int × Int)) (y z : Int), sumT D es c (y + z) = y + sumT D es c z
  | [], y, z => rfl
  | e :: es, y, z => by
    show sumT D es c (if e.1 < c then y + z + D e.2.toNat else y + z) = y + sumT D es c (if e.1 < c then z + D e.2.toNat else z)
    rw [← sumT_add D c es]
    congr 1
    split <;> omega
theorem sumT_bound {D : Nat → Int} (hD : ∀ j, 0 ≤ D j ∧ D j ≤ 1000000000) (c : Int) : ∀ (es : List (Int × Int)) (z : Int), z ≤ sumT D es c z ∧ sumT D es c z ≤ z + es.length * 1000000000
  | [], z => by simp [sumT]
  | e :: es, z => by
    show z ≤ sumT D es c (if e.1 < c then z + D e.2.toNat else z) ∧ sumT D es c (if e.1 < c then z + D e.2.toNat else z) ≤ _
    have h2 := hD e.2.toNat
    simp only [List.length_cons]
    by_cases h : e.1 < c
    · have h1 := sumT_bound hD c es (z + D e.2.toNat)
      rw [if_pos h]
      omega
    · have h1 := sumT_bound hD c es z
      rw [if_neg h]
      omega
theorem eds_low {first last : Int} {es : List (Int × Int)} (h : edsOk first last es = true) : ∀ (j : Nat) (e : Int × Int), es[j]? = some e → 97 + (j : Int) ≤ e.1
  | 0, e, he => by have := edsOk_at h he; omega
  | j + 1, e, he => by
    have hlt := (List.getElem?_eq_some_iff.1 he).1
    have hq : es[j]? = some es[j] := List.getElem?_eq_getElem (by omega)
    have h1 := eds_low h j _ hq
    have h2 := eds_asc h hq (j + 1) e (by omega) he
    omega
theorem eds_len {first last : Int} {es : List (Int × Int)} (h : edsOk first last es = true) : es.length ≤ 26 := by
  rcases Nat.lt_or_ge 26 es.length with hl | hl
  · have hq : es[26]? = some es[26] := List.getElem?_eq_getElem hl
    have h1 := eds_low h 26 _ hq
    have h2 := edsOk_at h hq
    omega
  · exact hl
/-- How many texts of a place stand ahead of those that go on by a letter. -/
def aheadT (ss : List Sta) (D : Nat → Int) (a : Int) (c : Int) : Int := sumT D (ss.getD a.toNat default).es c (cntZ (ss.getD a.toNat default).ends)
theorem aheadT_at {ss : List Sta} {p : Nat} {s : Sta} (hs : ss[p]? = some s) (D : Nat → Int) (c : Int) : aheadT ss D p c = sumT D s.es c (cntZ s.ends) := by
  unfold aheadT
  simp [List.getD, hs]
theorem cntZ_bound (b : Bool) : 0 ≤ cntZ b ∧ cntZ b ≤ 1 := by unfold cntZ; split <;> omega
theorem aheadT_bound {ss : List Sta} (hok : stasOk ss = true) {D : Nat → Int} (hD : ∀ j, 0 ≤ D j ∧ D j ≤ 1000000000) {p : Nat} {s : Sta} (hs : ss[p]? = some s) (c : Int) : 0 ≤ aheadT ss D p c ∧ aheadT ss D p c ≤ 26000000001 := by
  rw [aheadT_at hs]
  have h1 := sumT_bound hD c s.es (cntZ s.ends)
  have h2 := cntZ_bound s.ends
  have h3 := eds_len (staOk_es (stasOk_at hok hs))
  omega
/-- How many texts each place knows: the whole table. -/
def cTab (ss : List Sta) : Nat → Int := tab cntF cntZ ss ss.length
theorem cTab_bound (ss : List Sta) : ∀ j, 0 ≤ cTab ss j ∧ cTab ss j ≤ 1000000000 := tab_cnt_bound ss ss.length
/-- A byte of a text. -/
def byT (s : ByteArray) (k : Nat) : Int := ((s.data.toList.getD k 0).toNat : Int)
theorem byT_at (s : ByteArray) (k : Nat) (h : k < s.size) : byT s k = ((s[k].toNat : Nat) : Int) := by
  unfold byT
  have : s.data.toList.getD k 0 = s[k] := by
    rw [List.getD_eq_getElem?_getD, List.getElem?_eq_getElem (by simpa using h)]
    rfl
  rw [this]
/-- The rank so far. -/
def rkT (ss : List Sta) (D : Nat → Int) (s : ByteArray) : Nat → Int
  | 0 => 0
  | k + 1 => rkT ss D s k + aheadT ss D (runT ss (s.data.toList.take k) 0) (byT s k)
theorem kn_place {ss : List Sta} (hok : stasOk ss = true) (h1 : 1 ≤ ss.length) {s : ByteArray} (hk : knT ss s = true) (k : Nat) : ∃ p : Nat, runT ss (s.data.toList.take k) 0 = p ∧ p < ss.length := by
  rcases runT_ok hok (s.data.toList.take k) 0 (.inr ⟨0, rfl, h1⟩) with h | ⟨p, hp, hl⟩
  · have := runT_stop ss s k h
    unfold knT at hk
    rw [this] at hk
    simp [endsT] at hk
  · exact ⟨p, hp, hl⟩
theorem rkT_bound {ss : List Sta} (hok : stasOk ss = true) (h1 : 1 ≤ ss.length) {D : Nat → Int} (hD : ∀ j, 0 ≤ D j ∧ D j ≤ 1000000000) {s : ByteArray} (hk : knT ss s = true) : ∀ k, 0 ≤ rkT ss D s k ∧ rkT ss D s k ≤ k * 26000000001
  | 0 => by simp [rkT]
  | k + 1 => by
    have ih := rkT_bound hok h1 hD hk k
    obtain ⟨p, hp, hl⟩ := kn_place hok h1 hk k
    have := aheadT_bound hok hD (List.getElem?_eq_getElem hl) (byT s k)
    unfold rkT
    rw [hp]
    omega
end Go.Proofs.Ytbkjbkdmanaohaa
/-
  Plain mathematics: the text of a rank.
-/
namespace Go.Proofs.Ytbkjbkdmanaohaa
set_option linter.unusedVariables false
/-- What edges know together. -/
def sumD (D : Nat → Int) : List (Int × Int) → Int
  | [] => 0
  | e :: es => D e.2.toNat + sumD D es
theorem sumD_nonneg {D : Nat → Int} (hD : ∀ j, 0 ≤ D j ∧ D j ≤ 1000000000) : ∀ es, 0 ≤ sumD D es
  | [] => Int.le_refl _
  | e :: es => by have := sumD_nonneg hD es; have := (hD e.2.toNat).1; simp only [sumD]; omega
theorem sumD_append (D : Nat → Int) : ∀ (a b : List (Int × Int)), sumD D (a ++ b) = sumD D a + sumD D b
  | [], b => by simp [sumD]
  | e :: a, b => by simp only [List.cons_append, sumD, sumD_append D a b]; omega
theorem sumD_take_succ {D : Nat → Int} {es : List (Int × Int)} {i : Nat} {e : Int × Int} (he : es[i]? = some e) : sumD D (es.take (i + 1)) = sumD D (es.take i) + D e.2.toNat := by
  rw [List.take_add_one, he, Option.toList_some, sumD_append]
  simp [sumD]
theorem sumD_take_mono {D : Nat → Int} (hD : ∀ j, 0 ≤ D j ∧ D j ≤ 1000000000) (es : List (Int × Int)) {i j : Nat} (h : i ≤ j) : sumD D (es.take i) ≤ sumD D (es.take j) := by
  have : es.take j = es.take i ++ (es.drop i).take (j - i) := by
    rw [← List.take_add, show i + (j - i) = j by omega]
  rw [this, sumD_append]
  have := sumD_nonneg hD ((es.drop i).take (j - i))
  omega
theorem foldE_cnt_le {D : Nat → Int} (hD : ∀ j, 0 ≤ D j ∧ D j ≤ 1000000000) : ∀ (es : List (Int × Int)) (z : Int), z ≤ 1000000000 → z ≤ foldE cntF D es z
  | [], z, _ => Int.le_refl _
  | e :: es, z, hz => by
    show z ≤ foldE cntF D es (cntF z (D e.2.toNat))
    have h1 := hD e.2.toNat
    have h2 : z ≤ cntF z (D e.2.toNat) ∧ cntF z (D e.2.toNat) ≤ 1000000000 := by unfold cntF; split <;> omega
    have := foldE_cnt_le hD es _ h2.2
    omega
theorem foldE_cnt_exact {D : Nat → Int} (hD : ∀ j, 0 ≤ D j ∧ D j ≤ 1000000000) : ∀ (es : List (Int × Int)) (z : Int), foldE cntF D es z < 1000000000 → foldE cntF D es z = z + sumD D es
  | [], z, _ => by simp [foldE, sumD]
  | e :: es, z, h => by
    have h' : foldE cntF D es (cntF z (D e.2.toNat)) < 1000000000 := h
    have h2 : cntF z (D e.2.toNat) ≤ 1000000000 := by unfold cntF; split <;> omega
    have h3 := foldE_cnt_le hD es _ h2
    have h4 : cntF z (D e.2.toNat) = z + D e.2.toNat := by
      by_cases hh : z + D e.2.toNat < 1000000000
      · exact if_pos hh
      · have h5 : cntF z (D e.2.toNat) = 1000000000 := if_neg hh
        rw [h5] at h3 h'
        omega
    show foldE cntF D es (cntF z (D e.2.toNat)) = _
    rw [foldE_cnt_exact hD es _ h', h4]
    simp only [sumD]
    omega
theorem tab_stays (f : Int → Int → Int) (z : Bool → Int) (ss : List Sta) (k j : Nat) (hk : k ≤ ss.length) (hj : ss.length - k ≤ j) (hjl : j < ss.length) : ∀ d, k + d ≤ ss.length → tab f z ss (k + d) j = tab f z ss k j
  | 0, _ => rfl
  | d + 1, h => by
    show (if j = ss.length - 1 - (k + d) then _ else tab f z ss (k + d) j) = _
    rw [if_neg (by omega)]
    exact tab_stays f z ss k j hk hj hjl d (by omega)
theorem foldE_congr {f : Int → Int → Int} {D E : Nat → Int} : ∀ (es : List (Int × Int)) (z : Int), (∀ e ∈ es, D e.2.toNat = E e.2.toNat) → foldE f D es z = foldE f E es z
  | [], z, _ => rfl
  | e :: es, z, h => by
    show foldE f D es (f z (D e.2.toNat)) = foldE f E es (f z (E e.2.toNat))
    rw [h e (List.mem_cons_self ..)]
    exact foldE_congr es _ (fun x hx => h x (List.mem_cons_of_mem _ hx))
theorem cTab_at {ss : List Sta} (hok : stasOk ss = true) {p : Nat} {s : Sta} (hs : ss[p]? = some s) : cTab ss p = foldE cntF (cTab ss) s.es (cntZ s.ends) := by
  have hp := (List.getElem?_eq_some_iff.1 hs).1
  have h1 : cTab ss p = tab cntF cntZ ss (ss.length - p) p := by
    have := tab_stays cntF cntZ ss (ss.length - p) p (by omega) (by omega) hp p (by omega)
    rw [show ss.length - p + p = ss.length by omega] at this
    exact this
  rw [h1, tab_next cntF cntZ ss p s hs p, if_pos rfl]
  refine foldE_congr _ _ (fun e he => ?_)
  have hb := edsOk_mem (staOk_es (stasOk_at hok hs)) he
  have := tab_stays cntF cntZ ss (ss.length - (p + 1)) e.2.toNat (by omega) (by omega) (by omega) (p + 1) (by omega)
  rw [show ss.length - (p + 1) + (p + 1) = ss.length by omega] at this
  exact this.symm
theorem cTab_exact {ss : List Sta} (hok : stasOk ss = true) {p : Nat} {s : Sta} (hs : ss[p]? = some s) (h : cTab ss p < 1000000000) : cTab ss p = cntZ s.ends + sumD (cTab ss) s.es := by
  rw [cTab_at hok hs] at h ⊢
  exact foldE_cnt_exact (cTab_bound ss) _ _ h
/-- Which edge a rank goes on by, and the rank behind it. -/
def pickT (D : Nat → Int) : List (Int × Int) → Int → Option ((Int × Int) × Int)
  | [], _ => none
  | e :: es, r => if r < D e.2.toNat then some (e, r) else pickT D es (r - D e.2.toNat)
theorem pick_some {D : Nat → Int} (hD : ∀ j, 0 ≤ D j ∧ D j ≤ 1000000000) : ∀ (es : List (Int × Int)) (r : Int), 0 ≤ r → r < sumD D es →
    ∃ i e, es[i]? = some e ∧ pickT D es r = some (e, r - sumD D (es.take i)) ∧ sumD D (es.take i) ≤ r ∧ r < sumD D (es.take i) + D e.2.toNat
  | [], r, h0, h => by simp [sumD] at h; omega
  | e :: es, r, h0, h => by
    unfold pickT
    by_cases hr : r < D e.2.toNat
    · exact ⟨0, e, rfl, by simp [hr, sumD], by simpa [sumD] using h0, by simpa [sumD] using hr⟩
    · obtain ⟨i, x, h1, h2, h3, h4⟩ := pick_some hD es (r - D e.2.toNat) (by omega) (by simp only [sumD] at h; omega)
      refine ⟨i + 1, x, h1, ?_, ?_, ?_⟩
      · rw [if_neg hr, h2]
        simp only [List.take_succ_cons, sumD]
        congr 2
        omega
      · simp only [List.take_succ_cons, sumD]; omega
      · simp only [List.take_succ_cons, sumD]; omega
theorem pick_drop {D : Nat → Int} {es : List (Int × Int)} {j : Nat} {e : Int × Int} (he : es[j]? = some e) (r : Int) : pickT D (es.drop j) r = if r < D e.2.toNat then some (e, r) else pickT D (es.drop (j + 1)) (r - D e.2.toNat) := by
  have hlt := (List.getElem?_eq_some_iff.1 he).1
  have : es.drop j = e :: es.drop (j + 1) := by
    rw [List.drop_eq_getElem_cons hlt]
    congr 1
    exact (List.getElem?_eq_some_iff.1 he).2
  rw [this]
  rfl
theorem sumT_all {D : Nat → Int} {c : Int} : ∀ (l : List (Int × Int)) (z : Int), (∀ e ∈ l, e.1 < c) → sumT D l c z = z + sumD D l
  | [], z, _ => by simp [sumT, sumD]
  | e :: l, z, h => by
    show sumT D l c (if e.1 < c then z + D e.2.toNat else z) = _
    rw [if_pos (h e (List.mem_cons_self ..)), sumT_all l _ (fun x hx => h x (List.mem_cons_of_mem _ hx))]
    simp only [sumD]
    omega
theorem sumT_none {D : Nat → Int} {c : Int} : ∀ (l : List (Int × Int)) (z : Int), (∀ e ∈ l, ¬ e.1 < c) → sumT D l c z = z
  | [], z, _ => rfl
  | e :: l, z, h => by
    show sumT D l c (if e.1 < c then z + D e.2.toNat else z) = _
    rw [if_neg (h e (List.mem_cons_self ..))]
    exact sumT_none l _ (fun x hx => h x (List.mem_cons_of_mem _ hx))
theorem sumT_letter {first last : Int} {es : List (Int × Int)} (h : edsOk first last es = true) {i : Nat} {e : Int × Int} (he : es[i]? = some e) (D : Nat → Int) (z : Int) : sumT D es e.1 z = z + sumD D (es.take i) := by
  have hs : es = es.take i ++ es.drop i := (List.take_append_drop _ _).symm
  have h1 : sumT D (es.take i ++ es.drop i) e.1 z = sumT D (es.drop i) e.1 (sumT D (es.take i) e.1 z) := by unfold sumT; exact List.foldl_append
  rw [← hs] at h1
  rw [h1, sumT_all (es.take i) z ?_, sumT_none (es.drop i) _ ?_]
  · intro x hx
    obtain ⟨j, hj⟩ := List.getElem?_of_mem hx
    rw [List.getElem?_drop] at hj
    rcases Nat.eq_zero_or_pos j with h0 | h0
    · subst h0
      rw [Nat.add_zero, he] at hj
      cases hj
      omega
    · have := eds_asc h he (i + j) x (by omega) hj
      omega
  · intro x hx
    obtain ⟨j, hj⟩ := List.getElem?_of_mem hx
    rw [List.getElem?_take] at hj
    split at hj
    · exact eds_asc h hj i e (by assumption) he
    · cases hj
/-- The text of a rank, from a place on. -/
def wdT (ss : List Sta) (D : Nat → Int) : Nat → Nat → Int → List UInt8
  | 0, _, _ => []
  | f + 1, p, r => if (ss.getD p default).ends = true ∧ r = 0 then [] else
      match pickT D (ss.getD p default).es (r - cntZ (ss.getD p default).ends) with
      | none => []
      | some (e, r') => UInt8.ofNat e.1.toNat :: wdT ss D f e.2.toNat r'
theorem wdT_succ (ss : List Sta) (D : Nat → Int) (f p : Nat) (r : Int) : wdT ss D (f + 1) p r = if (ss.getD p default).ends = true ∧ r = 0 then [] else
      match pickT D (ss.getD p default).es (r - cntZ (ss.getD p default).ends) with
      | none => []
      | some (e, r') => UInt8.ofNat e.1.toNat :: wdT ss D f e.2.toNat r' := rfl
theorem wdT_end {ss : List Sta} {D : Nat → Int} {f p : Nat} {s : Sta} (hs : ss[p]? = some s) (he : s.ends = true) : wdT ss D (f + 1) p 0 = [] := by
  unfold wdT
  simp [List.getD, hs, he]
/-- One step of a rank. -/
theorem word_step {ss : List Sta} (hok : stasOk ss = true) {p : Nat} {s : Sta} (hs : ss[p]? = some s) {r : Int} (h0 : 0 ≤ r) (hr : r < cTab ss p) (hb : cTab ss p < 1000000000) (hne : ¬ (s.ends = true ∧ r = 0)) :
    ∃ (i l t : Nat), s.es[i]? = some ((l : Int), (t : Int)) ∧ 97 ≤ l ∧ l ≤ 122 ∧ p < t ∧ t < ss.length ∧ cntZ s.ends + sumD (cTab ss) (s.es.take i) ≤ r ∧ r < cntZ s.ends + sumD (cTab ss) (s.es.take i) + cTab ss t ∧ cTab ss t < 1000000000 ∧
      pickT (cTab ss) s.es (r - cntZ s.ends) = some (((l : Int), (t : Int)), r - cntZ s.ends - sumD (cTab ss) (s.es.take i)) ∧
      ∀ f, wdT ss (cTab ss) (f + 1) p r = UInt8.ofNat l :: wdT ss (cTab ss) f t (r - cntZ s.ends - sumD (cTab ss) (s.es.take i)) := by
  have hex := cTab_exact hok hs hb
  have hz : cntZ s.ends ≤ r := by
    cases he : s.ends with
    | false => simpa [cntZ] using h0
    | true =>
      have : r ≠ 0 := fun h => hne ⟨he, h⟩
      simp [cntZ]; omega
  obtain ⟨i, e, h1, h2, h3, h4⟩ := pick_some (cTab_bound ss) s.es (r - cntZ s.ends) (by omega) (by omega)
  have hed := edsOk_at (staOk_es (stasOk_at hok hs)) h1
  obtain ⟨l, t⟩ := e
  simp only at hed h4
  obtain ⟨l, rfl⟩ : ∃ l' : Nat, l = l' := ⟨l.toNat, by omega⟩
  obtain ⟨t, rfl⟩ : ∃ t' : Nat, t = t' := ⟨t.toNat, by omega⟩
  rw [Int.toNat_natCast] at h4
  have hle : sumD (cTab ss) (s.es.take i) + cTab ss t ≤ sumD (cTab ss) s.es := by
    have h5 := sumD_take_succ (D := cTab ss) h1
    have h6 := sumD_take_mono (cTab_bound ss) s.es (i := i + 1) (j := s.es.length) (by have := (List.getElem?_eq_some_iff.1 h1).1; omega)
    rw [List.take_length] at h6
    simp only [Int.toNat_natCast] at h5
    omega
  have h7 := sumD_nonneg (cTab_bound ss) (s.es.take i)
  have h8 := cntZ_bound s.ends
  refine ⟨i, l, t, h1, by omega, by omega, by omega, by omega, by omega, by omega, by omega, h2, fun f => ?_⟩
  have hg : ss.getD p default = s := by simp [List.getD, hs]
  rw [wdT_succ, hg, if_neg hne, h2]
  simp
theorem place_end {ss : List Sta} {p : Nat} {s : Sta} (hs : ss[p]? = some s) : ss.getD p default = s := by simp [List.getD, hs]
end Go.Proofs.Ytbkjbkdmanaohaa
/-
  Plain mathematics: all texts that a place of a machine knows, in order, behind what leads there.
-/
namespace Go.Proofs.Ytbkjbkdmanaohaa
set_option linter.unusedVariables false
def letB (c : Int) : ByteArray := ⟨#[UInt8.ofNat c.toNat]⟩
theorem letB_size (c : Int) : (letB c).size = 1 := rfl
def allT (ss : List Sta) : Nat → Nat → ByteArray → List ByteArray
  | 0, _, _ => []
  | f + 1, p, ah => match ss[p]? with
    | none => []
    | some st => (if st.ends then [ah] else []) ++ st.es.flatMap (fun e => allT ss f e.2.toNat (ah ++ letB e.1))
theorem flatMap_congr47 {α β : Type} {f g : α → List β} : ∀ {l : List α}, (∀ x ∈ l, f x = g x) → l.flatMap f = l.flatMap g
  | [], _ => rfl
  | a :: l, h => by
    rw [List.flatMap_cons, List.flatMap_cons, h a (List.mem_cons_self ..), flatMap_congr47 (fun x hx => h x (List.mem_cons_of_mem _ hx))]
theorem allT_more {ss : List Sta} (hok : stasOk ss = true) : ∀ (f p : Nat) (ah : ByteArray), ss.length ≤ p + f → allT ss f p ah = allT ss (f + 1) p ah
  | 0, p, ah, h => by
    have : ss[p]? = none := List.getElem?_eq_none (by omega)
    simp [allT, this]
  | f + 1, p, ah, h => by
    show allT ss (f + 1) p ah = allT ss (f + 1 + 1) p ah
    rw [allT, allT]
    cases hs : ss[p]? with
    | none => rfl
    | some st =>
      dsimp only
      congr 1
      refine flatMap_congr47 fun e he => ?_
      have h2 := edsOk_mem (staOk_es (stasOk_at hok hs)) he
      exact allT_more hok f _ _ (by omega)
theorem allT_stab {ss : List Sta} (hok : stasOk ss = true) (p : Nat) (ah : ByteArray) : ∀ d, allT ss (ss.length - p + d) p ah = allT ss (ss.length - p) p ah
  | 0 => rfl
  | d + 1 => by rw [← Nat.add_assoc, ← allT_more hok _ _ _ (by omega)]; exact allT_stab hok p ah d
/-- All texts of a place. -/
def txT (ss : List Sta) (p : Nat) (ah : ByteArray) : List ByteArray := allT ss (ss.length - p) p ah
def txE (ss : List Sta) (ah : ByteArray) (es : List (Int × Int)) : List ByteArray := es.flatMap fun e => txT ss e.2.toNat (ah ++ letB e.1)
theorem txT_at {ss : List Sta} (hok : stasOk ss = true) {p : Nat} {st : Sta} (hs : ss[p]? = some st) (ah : ByteArray) : txT ss p ah = (if st.ends then [ah] else []) ++ txE ss ah st.es := by
  have hlt := (List.getElem?_eq_some_iff.1 hs).1
  obtain ⟨f, hf⟩ : ∃ f, ss.length - p = f + 1 := ⟨ss.length - p - 1, by omega⟩
  unfold txT
  rw [hf, allT, hs]
  dsimp only
  congr 1
  refine flatMap_congr47 fun e he => ?_
  have h2 := edsOk_mem (staOk_es (stasOk_at hok hs)) he
  have h3 : f = ss.length - e.2.toNat + (f - (ss.length - e.2.toNat)) := by omega
  rw [h3, allT_stab hok]
  rfl
theorem txE_take {ss : List Sta} {ah : ByteArray} {es : List (Int × Int)} {k : Nat} {e : Int × Int} (he : es[k]? = some e) : txE ss ah (es.take (k + 1)) = txE ss ah (es.take k) ++ txT ss e.2.toNat (ah ++ letB e.1) := by
  unfold txE
  rw [List.take_add_one, he, List.flatMap_append]
  simp
/-- What the first edges make of a list. -/
def txTo (ss : List Sta) (st : Sta) (ah : ByteArray) (k : Nat) : List ByteArray := (if st.ends then [ah] else []) ++ txE ss ah (st.es.take k)
theorem txTo_zero (ss : List Sta) (st : Sta) (ah : ByteArray) : txTo ss st ah 0 = if st.ends then [ah] else [] := by simp [txTo, txE]
theorem txTo_succ {ss : List Sta} {st : Sta} {ah : ByteArray} {k : Nat} {e : Int × Int} (he : st.es[k]? = some e) : txTo ss st ah (k + 1) = txTo ss st ah k ++ txT ss e.2.toNat (ah ++ letB e.1) := by
  unfold txTo
  rw [txE_take he, List.append_assoc]
theorem txTo_all {ss : List Sta} (hok : stasOk ss = true) {p : Nat} {st : Sta} (hs : ss[p]? = some st) (ah : ByteArray) {k : Nat} (hk : st.es.length ≤ k) : txTo ss st ah k = txT ss p ah := by
  rw [txT_at hok hs, txTo, List.take_of_length_le hk]
/-- Behind the first so many edges only more comes. -/
theorem txTo_pre {ss : List Sta} {st : Sta} {ah : ByteArray} (k : Nat) : ∀ d, ∃ r, txTo ss st ah (k + d) = txTo ss st ah k ++ r
  | 0 => ⟨[], by simp⟩
  | d + 1 => by
    obtain ⟨r, hr⟩ := txTo_pre k d
    cases he : st.es[k + d]? with
    | some e => exact ⟨r ++ txT ss e.2.toNat (ah ++ letB e.1), by rw [← Nat.add_assoc, txTo_succ he, hr, List.append_assoc]⟩
    | none =>
      have : st.es.length ≤ k + d := by
        rcases Nat.lt_or_ge (k + d) st.es.length with h | h
        · rw [List.getElem?_eq_getElem h] at he; cases he
        · exact h
      refine ⟨r, ?_⟩
      rw [← hr]
      unfold txTo
      rw [List.take_of_length_le this, List.take_of_length_le (by omega)]
theorem txT_pre {ss : List Sta} (hok : stasOk ss = true) {p : Nat} {st : Sta} (hs : ss[p]? = some st) (ah : ByteArray) (k : Nat) : ∃ r, txT ss p ah = txTo ss st ah k ++ r := by
  obtain ⟨r, hr⟩ := txTo_pre (ss := ss) (st := st) (ah := ah) k st.es.length
  exact ⟨r, by rw [← txTo_all hok hs ah (k := k + st.es.length) (by omega), hr]⟩
/-- If the list is full, it is what comes first of all. -/
theorem take_full {ss : List Sta} (hok : stasOk ss = true) {p : Nat} {st : Sta} (hs : ss[p]? = some st) (ah : ByteArray) {k n : Nat} (h : ((txTo ss st ah k).take n).length = n) : (txTo ss st ah k).take n = (txT ss p ah).take n := by
  obtain ⟨r, hr⟩ := txT_pre hok hs ah k
  rw [List.length_take] at h
  rw [hr, List.take_append_of_le_length (by omega)]
theorem take_next {ss : List Sta} {st : Sta} {ah : ByteArray} {k n : Nat} {e : Int × Int} (he : st.es[k]? = some e) : (txTo ss st ah (k + 1)).take n = (txTo ss st ah k).take n ++ (txT ss e.2.toNat (ah ++ letB e.1)).take (n - ((txTo ss st ah k).take n).length) := by
  rw [txTo_succ he, List.take_append, List.length_take]
  by_cases h : n ≤ (txTo ss st ah k).length
  · rw [Nat.min_eq_left h, Nat.sub_self, show n - (txTo ss st ah k).length = 0 by omega]
  · rw [Nat.min_eq_right (by omega)]
theorem allT_size (ss : List Sta) : ∀ (f p : Nat) (ah x : ByteArray), x ∈ allT ss f p ah → x.size ≤ ah.size + f
  | 0, p, ah, x, h => by simp [allT] at h
  | f + 1, p, ah, x, h => by
    rw [allT] at h
    cases hs : ss[p]? with
    | none => rw [hs] at h; simp at h
    | some st =>
      rw [hs] at h
      simp only [List.mem_append, List.mem_flatMap] at h
      rcases h with h | ⟨e, he, h⟩
      · split at h
        · simp at h; subst h; omega
        · simp at h
      · have := allT_size ss f _ _ _ h
        rw [ByteArray.size_append, letB_size] at this
        omega
theorem txT_fit (ss : List Sta) (p n : Nat) (ah : ByteArray) (h : ah.size + ss.length ≤ maxLen) : ∀ (i : Nat) (x : ByteArray), ((txT ss p ah).take n)[i]? = some x → x.size ≤ maxLen := fun i x hx => by
  have hm := List.mem_of_mem_take (List.mem_of_getElem? hx)
  have := allT_size ss _ _ _ _ hm
  omega
/-- How many there are: what the table counts. -/
theorem cnt_fold {ss : List Sta} {ah : ByteArray} : ∀ (es : List (Int × Int)) (z : Int) (n : Nat), z = (if (n : Int) < 1000000000 then (n : Int) else 1000000000) → (∀ e ∈ es, ∀ (a : ByteArray), cTab ss e.2.toNat = if ((txT ss e.2.toNat a).length : Int) < 1000000000 then ((txT ss e.2.toNat a).length : Int) else 1000000000) →
    foldE cntF (cTab ss) es z = if ((n + (txE ss ah es).length : Nat) : Int) < 1000000000 then ((n + (txE ss ah es).length : Nat) : Int) else 1000000000
  | [], z, n, hz, _ => by simpa [foldE, txE] using hz
  | e :: es, z, n, hz, h => by
    show foldE cntF (cTab ss) es (cntF z (cTab ss e.2.toNat)) = _
    have h1 := h e (List.mem_cons_self ..) (ah ++ letB e.1)
    have h2 : cntF z (cTab ss e.2.toNat) = if ((n + (txT ss e.2.toNat (ah ++ letB e.1)).length : Nat) : Int) < 1000000000 then ((n + (txT ss e.2.toNat (ah ++ letB e.1)).length : Nat) : Int) else 1000000000 := by
      rw [h1, hz]
      unfold cntF
      push_cast
      repeat' split
      all_goals omega
    have h3 := cnt_fold (ah := ah) es _ (n + (txT ss e.2.toNat (ah ++ letB e.1)).length) h2 (fun x hx => h x (List.mem_cons_of_mem _ hx))
    rw [h3]
    have h4 : (txE ss ah (e :: es)).length = (txT ss e.2.toNat (ah ++ letB e.1)).length + (txE ss ah es).length := by
      unfold txE
      rw [List.flatMap_cons, List.length_append]
    rw [h4, Nat.add_assoc]
theorem cTab_count {ss : List Sta} (hok : stasOk ss = true) : ∀ (d p : Nat), ss.length - p = d → p < ss.length → ∀ (a : ByteArray), cTab ss p = if ((txT ss p a).length : Int) < 1000000000 then ((txT ss p a).length : Int) else 1000000000 := by
  intro d
  induction d using Nat.strongRecOn with
  | _ d ih =>
    intro p hd hp a
    obtain ⟨st, hs⟩ : ∃ st, ss[p]? = some st := ⟨_, List.getElem?_eq_getElem hp⟩
    rw [cTab_at hok hs, txT_at hok hs, List.length_append]
    refine cnt_fold (ah := a) st.es (cntZ st.ends) _ ?_ ?_
    · cases st.ends <;> simp [cntZ]
    · intro e he b
      have h2 := edsOk_mem (staOk_es (stasOk_at hok hs)) he
      exact ih (ss.length - e.2.toNat) (by omega) e.2.toNat rfl (by omega) b
theorem cTab_more {ss : List Sta} (hok : stasOk ss = true) (h1 : 1 ≤ ss.length) (a : ByteArray) {n : Nat} (hn : n < 1000000000) : (cTab ss 0 > (n : Int)) ↔ n < (txT ss 0 a).length := by
  rw [cTab_count hok _ 0 rfl (by omega) a]
  split <;> omega
end Go.Proofs.Ytbkjbkdmanaohaa
