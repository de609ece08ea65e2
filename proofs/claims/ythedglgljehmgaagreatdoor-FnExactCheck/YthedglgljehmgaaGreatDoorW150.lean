/-
  A map from texts to places, told key by key.
-/
import Derived.Maps.OwnRows
import Derived.Maps.Views
import Derived.WalkKit
import Derived.Below
namespace Go.Proofs.YthedglgljehmgaaGreatDoor
open Go.RowKit Go.Maps Go.WideMaps
open Go.ChangeShapes (lits)
set_option linter.unusedVariables false
/-- The places at a text. -/
def placesOf (ps : List (ByteArray × Nat)) (s : ByteArray) : List Int := (ps.filter (fun p => p.1 = s)).map (fun p => (p.2 : Int))
theorem placesOf_snoc (ps : List (ByteArray × Nat)) (s s' : ByteArray) (n : Nat) : placesOf (ps ++ [(s, n)]) s' = if s = s' then placesOf ps s' ++ [(n : Int)] else placesOf ps s' := by
  unfold placesOf
  rw [List.filter_append]
  by_cases h : s = s' <;> simp [h]
def rowD (zs : List Int) : DataW Unit := if zs = [] then .nil else .slice (lits .i64 zs) []
theorem lits_inj {zs ys : List Int} (h : (lits .i64 zs : List (DataW Unit)) = lits .i64 ys) : zs = ys := by
  unfold lits at h
  exact (List.map_inj_right (fun a b hab => by simpa using hab)).1 h
/-- The map tells just these. -/
def Told (P : Program) (k : TypeId) (D : DataW Unit) (ps : List (ByteArray × Nat)) : Prop :=
  IsMap D ∧ (∀ (s : ByteArray) (kl : Lit), keyOf P k (.string s) = some kl → D.atKey kl .nil = rowD (placesOf ps s)) ∧ ∀ (s : ByteArray) (kl : Lit), keyOf P k (.string s) = some kl → Maps.has D kl = !(placesOf ps s).isEmpty
theorem told_none (P : Program) (k : TypeId) : Told P k (.map []) [] := ⟨isMap_empty, fun s kl h => by simp [DataW.atKey, placesOf, rowD], fun s kl h => by simp [Maps.has, placesOf]⟩
theorem told_at {P : Program} {k : TypeId} {D : DataW Unit} {ps : List (ByteArray × Nat)} (h : Told P k D ps) {s : ByteArray} {kl : Lit} (hk : keyOf P k (.string s) = some kl) {w : World} {base : Nat} {e : TypeId} {v : Value} {zs : List Int}
    (ho : w.ownsInts base e .i64 v zs) (hat : D.atKey kl .nil = rowDatum .i64 v zs) : zs = placesOf ps s := by
  have h1 := h.2.1 s kl hk
  rw [hat] at h1
  unfold rowD at h1
  rcases ho.datum (H := Unit) with ⟨h2, rfl⟩ | h2
  · rw [h2] at h1
    split at h1
    · next h3 => exact h3.symm
    · cases h1
  · rw [h2] at h1
    split at h1
    · cases h1
    · simp only [DataW.slice.injEq, and_true] at h1
      exact lits_inj h1
theorem told_step {P : Program} {k : TypeId} (K : Keyed P k) {D : DataW Unit} {ps : List (ByteArray × Nat)} (h : Told P k D ps) {s : ByteArray} {kl : Lit} (hk : keyOf P k (.string s) = some kl) (n : Nat) :
    Told P k (D.put kl (.slice (lits .i64 (placesOf ps s ++ [(n : Int)])) [])) (ps ++ [(s, n)]) := by
  refine ⟨h.1.put _ _, fun s' kl' hk' => ?_, fun s' kl' hk' => ?_⟩
  all_goals rw [placesOf_snoc]
  all_goals by_cases e : kl' = kl
  · subst e
    have hs := K.inj hk hk'
    simp only [Value.string.injEq] at hs
    subst hs
    rw [atKey_put_same h.1 (K.key hk)]
    simp [rowD]
  · have hs : ¬ s = s' := fun e' => e (by subst e'; rw [hk] at hk'; exact (Option.some.inj hk').symm)
    rw [atKey_put_other e, if_neg hs]
    exact h.2.1 s' kl' hk'
  · subst e
    have hs := K.inj hk hk'
    simp only [Value.string.injEq] at hs
    subst hs
    rw [has_put_same h.1 (K.key hk)]
    simp
  · have hs : ¬ s = s' := fun e' => e (by subst e'; rw [hk] at hk'; exact (Option.some.inj hk').symm)
    rw [has_put_other e, if_neg hs]
    exact h.2.2 s' kl' hk'
theorem grown150 {w w' : World} (h : Below w.heap.size w w') (r : Option Nat) : w.grownBy w' r :=
  ⟨h.os, h.tape, h.output, h.size, fun i hi _ => h.block i hi⟩
/-- What is done to new blocks alone leaves such a map. -/
theorem groups_below {w w' : World} {P : Program} {k : TypeId} {base : Nat} {e : TypeId} {q : IntKind} {b n : Nat} {D : DataW Unit} (h : w.ownsGroups P k base e q b n D) (hb : Below w.heap.size w w') : w'.ownsGroups P k base e q b n D := by
  obtain ⟨es, clock, h1, F, hs, hD, hbb, hlen, hap⟩ := h
  have hlt : b < w.heap.size := (Array.getElem?_eq_some_iff.1 h1).1
  have hst : ∀ x ∈ es.toList, ∀ z, rowElem (H := Unit) w base e q x.val = some z → rowElem w' base e q x.val = some z := by
    intro x _ z hz
    obtain ⟨ys, ho, rfl⟩ := rowElem_inv hz
    exact rowElem_mk (ho.kept (row := none) (grown150 hb _) (by cases x.val.ownBlock <;> simp))
  obtain ⟨F2, hmap2, _⟩ := F.stay hst
  refine ⟨es, clock, (hb.block b hlt).trans h1, F2, hs, by rw [hD, hmap2], hbb, fun x hx ys ho => ?_, hap⟩
  obtain ⟨y, hy⟩ := F.reads x hx
  obtain ⟨z, hz, _⟩ := WideElems.rd_val hy
  obtain ⟨ys', ho', _⟩ := rowElem_inv hz
  rw [ho.unique (ho'.kept (row := none) (grown150 hb _) (by cases x.val.ownBlock <;> simp))]
  exact hlen x hx _ ho'
theorem groups_mono {w : World} {P : Program} {k : TypeId} {base : Nat} {e : TypeId} {q : IntKind} {b n n' : Nat} {D : DataW Unit} (h : w.ownsGroups P k base e q b n D) (hn : n ≤ n') : w.ownsGroups P k base e q b n' D := by
  obtain ⟨es, clock, h1, F, hs, hD, hbb, hlen, hap⟩ := h
  exact ⟨es, clock, h1, F, Nat.le_trans hs hn, hD, hbb, fun x hx zs ho => Nat.le_trans (hlen x hx zs ho) hn, hap⟩
end Go.Proofs.YthedglgljehmgaaGreatDoor
