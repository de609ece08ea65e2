/-
  impl.affixLine, impl.entryLine.
-/
import Derived.Test.YtcnnjbiambccdaaGreatDoorGW182
import Derived.Test.YtcnnjbiambccdaaGreatDoorGW23
import Derived.Test.YtcnnjbiambccdaaGreatDoorGW78
namespace Go.Proofs.YtcnnjbiambccdaaGreatDoor
open Go.RowKit
set_option linter.unusedVariables false
/-- A text of bytes. -/
def mkT (l : List UInt8) : ByteArray := ⟨l.toArray⟩
theorem bl_mk (l : List UInt8) : bl (mkT l) = l := by simp [bl, mkT]
theorem mk_bl (s : ByteArray) : mkT (bl s) = s := by
  obtain ⟨⟨l⟩⟩ := s
  rfl
theorem bl_app (a b : ByteArray) : bl (a ++ b) = bl a ++ bl b := by simp [bl, ByteArray.data_append]
theorem eq_of_bl {a b : ByteArray} (h : bl a = bl b) : a = b := by rw [← mk_bl a, h, mk_bl]
/-- The parts of an affix's line. -/
def affP (a : Aff) : Nat → ByteArray
  | 0 => if a.front then ⟨#[102, 114, 111, 110, 116]⟩ else ⟨#[101, 110, 100]⟩
  | 1 => a.flag
  | 2 => a.strip
  | 3 => a.add
  | _ => a.wh
/-- An affix's line, and an entry's. -/
def lineA (a : Aff) : List UInt8 := accJ (affP a) 4 ++ [10]
def lineE (s f : ByteArray) : List UInt8 := if f.size = 0 then bl s ++ [10] else bl s ++ [47] ++ bl f ++ [10]
theorem bl_nil_size {f : ByteArray} (h : f.size = 0) : f = ⟨#[]⟩ := by
  obtain ⟨⟨l⟩⟩ := f
  have : l = [] := List.eq_nil_of_length_eq_zero h
  subst this
  rfl
theorem text_of {s : ByteArray} {l : List UInt8} (h : bl s = l) : s = mkT l := by rw [← h, mk_bl]
theorem taEE (v : Value) (w : World) : (Instr.typeAssert (.iface 105 v) 102 105 true).run Tryz.prog w = .ok (.tuple #[v, .bool true]) w := by kernel_rfl
theorem taBE (v : Value) (w : World) : (Instr.typeAssert (.iface 106 v) 102 105 true).run Tryz.prog w = .ok (.tuple #[.agg #[.string ⟨#[]⟩, .bool false, .string ⟨#[]⟩, .string ⟨#[]⟩, .string ⟨#[]⟩], .bool false]) w := by kernel_rfl
theorem taBB (v : Value) (w : World) : (Instr.typeAssert (.iface 106 v) 102 106 true).run Tryz.prog w = .ok (.tuple #[v, .bool true]) w := by kernel_rfl
set_option maxRecDepth 100000 in
set_option maxHeartbeats 2000000 in
theorem affixLine_any (a : Aff) (w : World) (h : a.flag.size ≤ 1000 ∧ a.strip.size ≤ 1000 ∧ a.add.size ≤ 1000 ∧ a.wh.size ≤ 1000) :
    Calls Tryz.prog 54 #[.agg a.cells] w fun e w' => e = .returned (.string (mkT (lineA a))) ∧ Below w.heap.size w w' := by
  obtain ⟨f, fr, st, ad, wh⟩ := a
  obtain ⟨h1, h2, h3, h4⟩ := h
  simp only at h1 h2 h3 h4
  unfold Aff.cells
  cases fr with
  | true =>
    have HL : Hid ((⟨(accJ (affP ⟨f, true, st, ad, wh⟩) 4).toArray⟩ : ByteArray) ++ ⟨#[10]⟩ = mkT (lineA ⟨f, true, st, ad, wh⟩)) := text_of (by rw [bl_app]; rfl)
    have HSZ : Hid (∀ k, k < 5 → (affP ⟨f, true, st, ad, wh⟩ k).size ≤ 1000) := by
      intro k hk
      match k with
      | 0 => exact (by decide : (5 : Nat) ≤ 1000)
      | 1 => exact h1
      | 2 => exact h2
      | 3 => exact h3
      | 4 => exact h4
    have ht1 := taEE
    have ht2 := taBE
    have ht3 := taBB
    go_enter Tryz.func54, Tryz.ntmps54
    go_wp2_with fail
    refine (sideBeg_any f st ad wh _).mono ?_
    rintro e w1 ⟨rfl, hb1⟩
    have HB1 : Hid (Below w.heap.size w w1) := ((Below.refl _ _).alloc (Nat.le_refl _) _).trans (hb1.mono (by simp <;> omega))
    have s0 := (hb1.cell (p := ⟨w.heap.size, 0, none⟩) (by simp)).trans (show _ = some (Value.string f) by simp [go_sem])
    have s2 := (hb1.cell (p := ⟨w.heap.size, 2, none⟩) (by simp)).trans (show _ = some (Value.string st) by simp [go_sem])
    have s3 := (hb1.cell (p := ⟨w.heap.size, 3, none⟩) (by simp)).trans (show _ = some (Value.string ad) by simp [go_sem])
    have s4 := (hb1.cell (p := ⟨w.heap.size, 4, none⟩) (by simp)).trans (show _ = some (Value.string wh) by simp [go_sem])
    have hz1 : w.heap.size < w1.heap.size := by have := hb1.size; simp at this; omega
    clear hb1
    go_wp2_with fail
    refine (join5_any _ w1.heap.size (affP ⟨f, true, st, ad, wh⟩) HSZ.out (by simp) ?hcc).mono ?_
    case hcc =>
      intro k hk
      match k with
      | 0 => simp [go_sem, affP]
      | 1 => simp [go_sem, affP]
      | 2 => simp [go_sem, affP]
      | 3 => simp [go_sem, affP]
      | 4 => simp [go_sem, affP]
    rintro e w2 ⟨rfl, hb2⟩
    have HB2 : Hid (Below w.heap.size w w2) := (HB1.out.alloc HB1.out.size _).trans (hb2.mono (by have := HB1.out.size; simp; omega))
    clear hb2 s0 s2 s3 s4
    have hal := accJ_length HSZ.out 4 (by omega)
    go_wp2
    go_ret
    refine ⟨?_, HB2.out⟩
    rw [← HL.out]
    rfl
  | false =>
    have HL : Hid ((⟨(accJ (affP ⟨f, false, st, ad, wh⟩) 4).toArray⟩ : ByteArray) ++ ⟨#[10]⟩ = mkT (lineA ⟨f, false, st, ad, wh⟩)) := text_of (by rw [bl_app]; rfl)
    have HSZ : Hid (∀ k, k < 5 → (affP ⟨f, false, st, ad, wh⟩ k).size ≤ 1000) := by
      intro k hk
      match k with
      | 0 => exact (by decide : (3 : Nat) ≤ 1000)
      | 1 => exact h1
      | 2 => exact h2
      | 3 => exact h3
      | 4 => exact h4
    have ht1 := taEE
    have ht2 := taBE
    have ht3 := taBB
    go_enter Tryz.func54, Tryz.ntmps54
    go_wp2_with fail
    refine (sideEnd_any f st ad wh _).mono ?_
    rintro e w1 ⟨rfl, hb1⟩
    have HB1 : Hid (Below w.heap.size w w1) := ((Below.refl _ _).alloc (Nat.le_refl _) _).trans (hb1.mono (by simp <;> omega))
    have s0 := (hb1.cell (p := ⟨w.heap.size, 0, none⟩) (by simp)).trans (show _ = some (Value.string f) by simp [go_sem])
    have s2 := (hb1.cell (p := ⟨w.heap.size, 2, none⟩) (by simp)).trans (show _ = some (Value.string st) by simp [go_sem])
    have s3 := (hb1.cell (p := ⟨w.heap.size, 3, none⟩) (by simp)).trans (show _ = some (Value.string ad) by simp [go_sem])
    have s4 := (hb1.cell (p := ⟨w.heap.size, 4, none⟩) (by simp)).trans (show _ = some (Value.string wh) by simp [go_sem])
    have hz1 : w.heap.size < w1.heap.size := by have := hb1.size; simp at this; omega
    clear hb1
    go_wp2_with fail
    refine (join5_any _ w1.heap.size (affP ⟨f, false, st, ad, wh⟩) HSZ.out (by simp) ?hcc).mono ?_
    case hcc =>
      intro k hk
      match k with
      | 0 => simp [go_sem, affP]
      | 1 => simp [go_sem, affP]
      | 2 => simp [go_sem, affP]
      | 3 => simp [go_sem, affP]
      | 4 => simp [go_sem, affP]
    rintro e w2 ⟨rfl, hb2⟩
    have HB2 : Hid (Below w.heap.size w w2) := (HB1.out.alloc HB1.out.size _).trans (hb2.mono (by have := HB1.out.size; simp; omega))
    clear hb2 s0 s2 s3 s4
    have hal := accJ_length HSZ.out 4 (by omega)
    go_wp2
    go_ret
    refine ⟨?_, HB2.out⟩
    rw [← HL.out]
    rfl
set_option maxHeartbeats 1000000 in
theorem entryLine_any (s f : ByteArray) (w : World) (hs : s.size ≤ 1000) (hf : f.size ≤ 1000) :
    Calls Tryz.prog 55 #[.agg #[.string s, .string f]] w fun e w' => e = .returned (.string (mkT (lineE s f))) ∧ Below w.heap.size w w' := by
  by_cases h0 : f.size = 0
  · have hfe : f = ⟨#[]⟩ := bl_nil_size h0
    subst hfe
    have HL : Hid (s ++ ⟨#[10]⟩ = mkT (lineE s ⟨#[]⟩)) := text_of (by rw [bl_app]; rfl)
    go_enter Tryz.func55, Tryz.ntmps55
    go_wp2
    go_ret
    refine ⟨?_, (Below.refl _ _).alloc (Nat.le_refl _) _⟩
    rw [← HL.out]
    rfl
  · have hfe : f.toList.isEmpty = false := by
      rw [ByteArray.toList_eq]
      cases hh : f.data.toList with
      | nil => exact absurd (show f.data.toList.length = 0 by rw [hh]; rfl) h0
      | cons => rfl
    have HL : Hid (s ++ ⟨#[47]⟩ ++ f ++ ⟨#[10]⟩ = mkT (lineE s f)) := text_of (by rw [bl_app, bl_app, bl_app]; unfold lineE; rw [if_neg h0]; rfl)
    go_enter Tryz.func55, Tryz.ntmps55
    go_wp2
    go_ret
    refine ⟨?_, (Below.refl _ _).alloc (Nat.le_refl _) _⟩
    rw [← HL.out]
    rfl
end Go.Proofs.YtcnnjbiambccdaaGreatDoor
/-
  impl.BookPut.
-/
namespace Go.Proofs.YtcnnjbiambccdaaGreatDoor
open Go.RowKit
set_option linter.unusedVariables false
theorem builder_below8 {T e : TypeId} {B b : Nat} {bs : List Value} {w w' : World} (h : Lib.IsBuilder T e B b bs w) (hb : Below w.heap.size w w') : Lib.IsBuilder T e B b bs w' := by
  have key : ∀ p, Lib.BuilderAt T e B b p bs w → Lib.BuilderAt T e B b p bs w' := by
    rintro p ⟨hB, v, hbk, hown, hne⟩
    have hlt : b < w.heap.size := (Array.getElem?_eq_some_iff.1 hbk).1
    refine ⟨hB, v, (hb.block b hlt).trans hbk, ⟨hown.1, ?_⟩, hne⟩
    rcases hown.2 with h2 | ⟨g, cap, cur, hv, hg, hh, r⟩
    · exact .inl h2
    · have hg2 : g < w.heap.size := (Array.getElem?_eq_some_iff.1 hh).1
      exact .inr ⟨g, cap, cur, hv, hg, (hb.block g hg2).trans hh, r⟩
  exact h.imp (key _) (key _)
/-- The lines of affixes, and of entries. -/
def putA (xs : List Aff) : List UInt8 := xs.flatMap lineA
def putE (es : List (ByteArray × ByteArray)) : List UInt8 := es.flatMap fun e => lineE e.1 e.2
theorem putA_take {xs : List Aff} {k : Nat} {x : Aff} (hx : xs[k]? = some x) : putA (xs.take (k + 1)) = putA (xs.take k) ++ lineA x := by
  unfold putA
  rw [List.take_add_one, hx]
  simp
theorem putE_take {es : List (ByteArray × ByteArray)} {k : Nat} {x : ByteArray × ByteArray} (hx : es[k]? = some x) : putE (es.take (k + 1)) = putE (es.take k) ++ lineE x.1 x.2 := by
  unfold putE
  rw [List.take_add_one, hx]
  simp
/-- Affixes and entries whose texts are short. -/
def ShortA (x : Aff) : Prop := x.flag.size ≤ 1000 ∧ x.strip.size ≤ 1000 ∧ x.add.size ≤ 1000 ∧ x.wh.size ≤ 1000
theorem lineA_length {x : Aff} (h : ShortA x) : (lineA x).length ≤ 5006 := by
  have : ∀ k, k < 5 → (affP x k).size ≤ 1000 := by
    intro k hk
    match k with
    | 0 =>
      show (if x.front then (⟨#[102, 114, 111, 110, 116]⟩ : ByteArray) else ⟨#[101, 110, 100]⟩).size ≤ 1000
      split <;> decide
    | 1 => exact h.1
    | 2 => exact h.2.1
    | 3 => exact h.2.2.1
    | 4 => exact h.2.2.2
  have := accJ_length this 4 (by omega)
  simp only [lineA, List.length_append, List.length_cons, List.length_nil]
  omega
theorem lineE_length {s f : ByteArray} (h1 : s.size ≤ 1000) (h2 : f.size ≤ 1000) : (lineE s f).length ≤ 2002 := by
  unfold lineE
  split
  · simp only [List.length_append, List.length_cons, List.length_nil, bl_length]; omega
  · simp only [List.length_append, List.length_cons, List.length_nil, bl_length]; omega
theorem book_parts {xs : List Aff} {es : List (ByteArray × ByteArray)} (h : bookT xs es = true) : xs.length ≤ 8 ∧ es.length ≤ 24 ∧ (∀ (i : Nat) (x : Aff), xs[i]? = some x → ShortA x) ∧ ∀ (i : Nat) (x : ByteArray × ByteArray), es[i]? = some x → x.1.size ≤ 1000 ∧ x.2.size ≤ 1000 := by
  unfold bookT affsT entsT at h
  simp only [Bool.and_eq_true, decide_eq_true_eq, List.all_eq_true, List.mem_range] at h
  obtain ⟨⟨h1, h2⟩, h3, h4⟩ := h
  refine ⟨h1, h3, fun i x hx => ?_, fun i x hx => ?_⟩
  · have := h2 i (List.getElem?_eq_some_iff.1 hx).1
    rw [affAt_at hx] at this
    simp only [Bool.and_eq_true] at this
    obtain ⟨p1, p2, p3, _⟩ := affOk_parts this.1
    have hfl : x.flag.size ≤ 1 := by
      have := this.1
      unfold affOk flagT at this
      simp only [Bool.and_eq_true, decide_eq_true_eq] at this
      omega
    exact ⟨by omega, by omega, by omega, by omega⟩
  · have := h4 i (List.getElem?_eq_some_iff.1 hx).1
    have hen : entT x.1 x.2 = true := by
      cases hh : entT x.1 x.2 with
      | true => rfl
      | false => rw [entAt_no hx hh] at this; cases this
    unfold entT at hen
    simp only [Bool.and_eq_true] at hen
    have h5 := wok_sz hen.1
    have h6 : x.2.size ≤ 4 := by
      have := hen.2
      unfold flagsT at this
      simp only [Bool.and_eq_true, decide_eq_true_eq] at this
      omega
    exact ⟨by omega, by omega⟩
theorem putA_length {xs : List Aff} (h : ∀ (i : Nat) (x : Aff), xs[i]? = some x → ShortA x) : ∀ k, k ≤ xs.length → (putA (xs.take k)).length ≤ 5006 * k
  | 0, _ => by simp [putA]
  | k + 1, hk => by
    have hx : xs[k]? = some xs[k] := List.getElem?_eq_getElem (by omega)
    have h1 := putA_length h k (by omega)
    have h2 := lineA_length (h k _ hx)
    rw [putA_take hx, List.length_append]
    omega
theorem putE_length {es : List (ByteArray × ByteArray)} (h : ∀ (i : Nat) (x : ByteArray × ByteArray), es[i]? = some x → x.1.size ≤ 1000 ∧ x.2.size ≤ 1000) : ∀ k, k ≤ es.length → (putE (es.take k)).length ≤ 2002 * k
  | 0, _ => by simp [putE]
  | k + 1, hk => by
    have hx : es[k]? = some es[k] := List.getElem?_eq_getElem (by omega)
    have h1 := putE_length h k (by omega)
    have h2 := lineE_length (h k _ hx).1 (h k _ hx).2
    rw [putE_take hx, List.length_append]
    omega
/-- A book's text. -/
def bputT (xs : List Aff) (es : List (ByteArray × ByteArray)) : ByteArray := if bookT xs es then mkT (putA xs ++ putE es) else ⟨#[]⟩
end Go.Proofs.YtcnnjbiambccdaaGreatDoor
