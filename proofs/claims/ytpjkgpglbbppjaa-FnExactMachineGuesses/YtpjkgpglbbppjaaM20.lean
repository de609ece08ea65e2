/-
  Plain mathematics: machines: states and edges; what is ok; tables worked out from the last state on.
-/
import Derived.WalkKit
namespace Go.Proofs.Ytpjkgpglbbppjaa
set_option linter.unusedVariables false
/-- A state: whether a text ends there, and its edges, a letter and a place each. -/
structure Sta where
  ends : Bool
  es : List (Int × Int)
instance : Inhabited Sta := ⟨⟨false, []⟩⟩
/-- Not too great to be handed over. -/
def SmallS (ss : List Sta) : Prop := ss.length ≤ 1048576 ∧ ∀ (i : Nat) (s : Sta), ss[i]? = some s → s.es.length ≤ 1048576
/-- The edge at a place is ok. -/
def edOk (first last : Int) (es : List (Int × Int)) (k : Nat) : Bool :=
  match es[k]? with
  | none => true
  | some e => decide (97 ≤ e.1) && decide (e.1 ≤ 122) && decide (first ≤ e.2) && decide (e.2 < last) &&
    (match k with
     | 0 => true
     | j + 1 => match es[j]? with | none => true | some p => decide (p.1 < e.1))
def edsOk (first last : Int) (es : List (Int × Int)) : Bool := (List.range es.length).all (edOk first last es)
theorem edsOk_true {first last : Int} {es : List (Int × Int)} (h : ∀ j, j < es.length → edOk first last es j = true) : edsOk first last es = true := by
  simp only [edsOk, List.all_eq_true, List.mem_range]
  exact h
theorem edsOk_false {first last : Int} {es : List (Int × Int)} (j : Nat) (hj : j < es.length) (h : edOk first last es j = false) : edsOk first last es = false := by
  simp only [edsOk, List.all_eq_false, List.mem_range]
  exact ⟨j, hj, by rw [h]; decide⟩
theorem edsOk_at {first last : Int} {es : List (Int × Int)} (h : edsOk first last es = true) {j : Nat} {e : Int × Int} (he : es[j]? = some e) : 97 ≤ e.1 ∧ e.1 ≤ 122 ∧ first ≤ e.2 ∧ e.2 < last := by
  simp only [edsOk, List.all_eq_true, List.mem_range] at h
  have := h j (List.getElem?_eq_some_iff.1 he).1
  simp only [edOk, he, Bool.and_eq_true, decide_eq_true_eq] at this
  omega
theorem edsOk_mem {first last : Int} {es : List (Int × Int)} (h : edsOk first last es = true) {e : Int × Int} (he : e ∈ es) : 97 ≤ e.1 ∧ e.1 ≤ 122 ∧ first ≤ e.2 ∧ e.2 < last := by
  obtain ⟨j, hj⟩ := List.getElem?_of_mem he
  exact edsOk_at h hj
theorem edOk_zero {first last : Int} {es : List (Int × Int)} {e : Int × Int} (he : es[0]? = some e) : edOk first last es 0 = (decide (97 ≤ e.1) && decide (e.1 ≤ 122) && decide (first ≤ e.2) && decide (e.2 < last)) := by
  simp [edOk, he]
theorem edOk_succ {first last : Int} {es : List (Int × Int)} {j : Nat} {p e : Int × Int} (hp : es[j]? = some p) (he : es[j + 1]? = some e) :
    edOk first last es (j + 1) = (decide (97 ≤ e.1) && decide (e.1 ≤ 122) && decide (first ≤ e.2) && decide (e.2 < last) && decide (p.1 < e.1)) := by
  simp [edOk, hp, he]
/-- The state at a place is ok, of a machine of n states. -/
def staOk (n : Nat) (i : Nat) (s : Sta) : Bool := edsOk (i + 1) n s.es && !(decide (0 < i) && !s.ends && s.es.isEmpty)
def stasOk (ss : List Sta) : Bool := (List.range ss.length).all fun i => match ss[i]? with | none => true | some s => staOk ss.length i s
theorem stasOk_true {ss : List Sta} (h : ∀ i s, ss[i]? = some s → staOk ss.length i s = true) : stasOk ss = true := by
  simp only [stasOk, List.all_eq_true, List.mem_range]
  intro i hi
  cases hs : ss[i]? with
  | none => rfl
  | some s => exact h i s hs
theorem stasOk_false {ss : List Sta} {i : Nat} {s : Sta} (hs : ss[i]? = some s) (h : staOk ss.length i s = false) : stasOk ss = false := by
  simp only [stasOk, List.all_eq_false, List.mem_range]
  exact ⟨i, (List.getElem?_eq_some_iff.1 hs).1, by simp [hs, h]⟩
theorem stasOk_at {ss : List Sta} (h : stasOk ss = true) {i : Nat} {s : Sta} (hs : ss[i]? = some s) : staOk ss.length i s = true := by
  simp only [stasOk, List.all_eq_true, List.mem_range] at h
  have := h i (List.getElem?_eq_some_iff.1 hs).1
  simpa [hs] using this
/-- What the edges of a state make of a table. -/
def foldE (f : Int → Int → Int) (D : Nat → Int) (es : List (Int × Int)) (z : Int) : Int := es.foldl (fun acc e => f acc (D e.2.toNat)) z
theorem foldE_take (f : Int → Int → Int) (D : Nat → Int) (es : List (Int × Int)) (z : Int) {k : Nat} {e : Int × Int} (he : es[k]? = some e) :
    foldE f D (es.take (k + 1)) z = f (foldE f D (es.take k) z) (D e.2.toNat) := by
  unfold foldE
  rw [List.take_add_one, he]
  simp [List.foldl_append]
/-- The table behind k states from the last on. -/
def tab (f : Int → Int → Int) (z : Bool → Int) (ss : List Sta) : Nat → Nat → Int
  | 0 => fun _ => 0
  | k + 1 => fun j => if j = ss.length - 1 - k then foldE f (tab f z ss k) (ss.getD j default).es (z (ss.getD j default).ends) else tab f z ss k j
/-- How deep a machine is: what one edge makes. -/
def deepF (a d : Int) : Int := if a < d + 1 then d + 1 else a
/-- How many texts: what one edge makes. -/
def cntF (a d : Int) : Int := if a + d < 1000000000 then a + d else 1000000000
def deepZ (_ : Bool) : Int := 0
def cntZ (b : Bool) : Int := if b then 1 else 0
theorem foldE_deep_bound {D : Nat → Int} {m : Int} (hD : ∀ j, 0 ≤ D j ∧ D j ≤ m) (es : List (Int × Int)) : ∀ z, 0 ≤ z → z ≤ m + 1 → 0 ≤ foldE deepF D es z ∧ foldE deepF D es z ≤ m + 1 := by
  induction es with
  | nil => intro z h0 h1; exact ⟨h0, h1⟩
  | cons e es ih =>
    intro z h0 h1
    show 0 ≤ foldE deepF D es (deepF z (D e.2.toNat)) ∧ foldE deepF D es (deepF z (D e.2.toNat)) ≤ m + 1
    have := hD e.2.toNat
    apply ih <;> unfold deepF <;> split <;> omega
theorem tab_deep_bound (ss : List Sta) : ∀ k j, 0 ≤ tab deepF deepZ ss k j ∧ tab deepF deepZ ss k j ≤ k
  | 0, j => by simp [tab]
  | k + 1, j => by
    unfold tab
    split
    · exact foldE_deep_bound (m := k) (tab_deep_bound ss k) _ _ (by simp [deepZ]) (by simp [deepZ]; omega)
    · have := tab_deep_bound ss k j
      omega
theorem foldE_cnt_bound {D : Nat → Int} (hD : ∀ j, 0 ≤ D j ∧ D j ≤ 1000000000) (es : List (Int × Int)) : ∀ z, 0 ≤ z → z ≤ 1000000000 → 0 ≤ foldE cntF D es z ∧ foldE cntF D es z ≤ 1000000000 := by
  induction es with
  | nil => intro z h0 h1; exact ⟨h0, h1⟩
  | cons e es ih =>
    intro z h0 h1
    show 0 ≤ foldE cntF D es (cntF z (D e.2.toNat)) ∧ foldE cntF D es (cntF z (D e.2.toNat)) ≤ 1000000000
    have := hD e.2.toNat
    apply ih <;> unfold cntF <;> split <;> omega
theorem tab_cnt_bound (ss : List Sta) : ∀ k j, 0 ≤ tab cntF cntZ ss k j ∧ tab cntF cntZ ss k j ≤ 1000000000
  | 0, j => by simp [tab]
  | k + 1, j => by
    unfold tab
    split
    · refine foldE_cnt_bound (tab_cnt_bound ss k) _ _ ?_ ?_ <;> (unfold cntZ; split <;> omega)
    · exact tab_cnt_bound ss k j
/-- A machine is ok. -/
def machT (ss : List Sta) : Bool := decide (1 ≤ ss.length) && decide (ss.length ≤ 400) && stasOk ss && decide (tab deepF deepZ ss ss.length 0 ≤ 12)
end Go.Proofs.Ytpjkgpglbbppjaa
