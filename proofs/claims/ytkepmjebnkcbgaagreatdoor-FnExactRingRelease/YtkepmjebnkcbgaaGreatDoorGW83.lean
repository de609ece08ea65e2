/-
  impl.affixLine, impl.entryLine.
-/
import Derived.Test.YtkepmjebnkcbgaaGreatDoorGW182
import Derived.Test.YtkepmjebnkcbgaaGreatDoorGW23
import Derived.Test.YtkepmjebnkcbgaaGreatDoorGW78
namespace Go.Proofs.YtkepmjebnkcbgaaGreatDoor
open Go.RowKit
set_option linter.unusedVariables false
/-- A text of bytes. -/
def mkT (l : List UInt8) : ByteArray := ⟨l.toArray⟩
theorem bl_mk (l : List UInt8) : bl (mkT l) = l := by simp [bl, mkT]
theorem mk_bl (s : ByteArray) : mkT (bl s) = s := by
  obtain ⟨⟨l⟩⟩ := s
  rfl
theorem bl_app (a b : ByteArray) : bl (a ++ b) = bl a ++ bl b := by simp [bl, ByteArray.data_append]
/-- The parts of an affix's line. -/
def affP (a : Aff) : Nat → ByteArray
  | 0 => if a.front then ⟨#[102, 114, 111, 110, 116]⟩ else ⟨#[101, 110, 100]⟩
  | 1 => a.flag
  | 2 => a.strip
  | 3 => a.add
  | _ => a.wh
/-- An affix's line, and an entry's. -/
def lineA (a : Aff) : List UInt8 := accJ (affP a) 4 ++ [10]
def lineE (s f : ByteArray) : List UInt8 := if f.size = 0 then bl s ++ [10] else bl s ++ [47] ++ bl f ++ [10]
theorem bl_nil_size {f : ByteArray} (h : f.size = 0) : f = ⟨#[]⟩ := by
  obtain ⟨⟨l⟩⟩ := f
  have : l = [] := List.eq_nil_of_length_eq_zero h
  subst this
  rfl
theorem text_of {s : ByteArray} {l : List UInt8} (h : bl s = l) : s = mkT l := by rw [← h, mk_bl]
theorem taEE (v : Value) (w : World) : (Instr.typeAssert (.iface 143 v) 140 143 true).run Tryz.prog w = .ok (.tuple #[v, .bool true]) w := by kernel_rfl
theorem taBE (v : Value) (w : World) : (Instr.typeAssert (.iface 144 v) 140 143 true).run Tryz.prog w = .ok (.tuple #[.agg #[.string ⟨#[]⟩, .bool false, .string ⟨#[]⟩, .string ⟨#[]⟩, .string ⟨#[]⟩], .bool false]) w := by kernel_rfl
theorem taBB (v : Value) (w : World) : (Instr.typeAssert (.iface 144 v) 140 144 true).run Tryz.prog w = .ok (.tuple #[v, .bool true]) w := by kernel_rfl
set_option maxRecDepth 100000 in
set_option maxHeartbeats 2000000 in
theorem affixLine_any (a : Aff) (w : World) (h : a.flag.size ≤ 1000 ∧ a.strip.size ≤ 1000 ∧ a.add.size ≤ 1000 ∧ a.wh.size ≤ 1000) :
    Calls Tryz.prog 92 #[.agg a.cells] w fun e w' => e = .returned (.string (mkT (lineA a))) ∧ Below w.heap.size w w' := by
  obtain ⟨f, fr, st, ad, wh⟩ := a
  obtain ⟨h1, h2, h3, h4⟩ := h
  simp only at h1 h2 h3 h4
  unfold Aff.cells
  cases fr with
  | true =>
    have HL : Hid ((⟨(accJ (affP ⟨f, true, st, ad, wh⟩) 4).toArray⟩ : ByteArray) ++ ⟨#[10]⟩ = mkT (lineA ⟨f, true, st, ad, wh⟩)) := text_of (by rw [bl_app]; rfl)
    have HSZ : Hid (∀ k, k < 5 → (affP ⟨f, true, st, ad, wh⟩ k).size ≤ 1000) := by
      intro k hk
      match k with
      | 0 => exact (by decide : (5 : Nat) ≤ 1000)
      | 1 => exact h1
      | 2 => exact h2
      | 3 => exact h3
      | 4 => exact h4
    have ht1 := taEE
    have ht2 := taBE
    have ht3 := taBB
    go_enter Tryz.func92, Tryz.ntmps92
    go_wp2_with fail
    refine (sideBeg_any f st ad wh _).mono ?_
    rintro e w1 ⟨rfl, hb1⟩
    have HB1 : Hid (Below w.heap.size w w1) := ((Below.refl _ _).alloc (Nat.le_refl _) _).trans (hb1.mono (by simp <;> omega))
    have s0 := (hb1.cell (p := ⟨w.heap.size, 0, none⟩) (by simp)).trans (show _ = some (Value.string f) by simp [go_sem])
    have s2 := (hb1.cell (p := ⟨w.heap.size, 2, none⟩) (by simp)).trans (show _ = some (Value.string st) by simp [go_sem])
    have s3 := (hb1.cell (p := ⟨w.heap.size, 3, none⟩) (by simp)).trans (show _ = some (Value.string ad) by simp [go_sem])
    have s4 := (hb1.cell (p := ⟨w.heap.size, 4, none⟩) (by simp)).trans (show _ = some (Value.string wh) by simp [go_sem])
    have hz1 : w.heap.size < w1.heap.size := by have := hb1.size; simp at this; omega
    clear hb1
    go_wp2_with fail
    refine (join5_any _ w1.heap.size (affP ⟨f, true, st, ad, wh⟩) HSZ.out (by simp) ?hcc).mono ?_
    case hcc =>
      intro k hk
      match k with
      | 0 => simp [go_sem, affP]
      | 1 => simp [go_sem, affP]
      | 2 => simp [go_sem, affP]
      | 3 => simp [go_sem, affP]
      | 4 => simp [go_sem, affP]
    rintro e w2 ⟨rfl, hb2⟩
    have HB2 : Hid (Below w.heap.size w w2) := (HB1.out.alloc HB1.out.size _).trans (hb2.mono (by have := HB1.out.size; simp; omega))
    clear hb2 s0 s2 s3 s4
    have hal := accJ_length HSZ.out 4 (by omega)
    go_wp2
    go_ret
    refine ⟨?_, HB2.out⟩
    rw [← HL.out]
    rfl
  | false =>
    have HL : Hid ((⟨(accJ (affP ⟨f, false, st, ad, wh⟩) 4).toArray⟩ : ByteArray) ++ ⟨#[10]⟩ = mkT (lineA ⟨f, false, st, ad, wh⟩)) := text_of (by rw [bl_app]; rfl)
    have HSZ : Hid (∀ k, k < 5 → (affP ⟨f, false, st, ad, wh⟩ k).size ≤ 1000) := by
      intro k hk
      match k with
      | 0 => exact (by decide : (3 : Nat) ≤ 1000)
      | 1 => exact h1
      | 2 => exact h2
      | 3 => exact h3
      | 4 => exact h4
    have ht1 := taEE
    have ht2 := taBE
    have ht3 := taBB
    go_enter Tryz.func92, Tryz.ntmps92
    go_wp2_with fail
    refine (sideEnd_any f st ad wh _).mono ?_
    rintro e w1 ⟨rfl, hb1⟩
    have HB1 : Hid (Below w.heap.size w w1) := ((Below.refl _ _).alloc (Nat.le_refl _) _).trans (hb1.mono (by simp <;> omega))
    have s0 := (hb1.cell (p := ⟨w.heap.size, 0, none⟩) (by simp)).trans (show _ = some (Value.string f) by simp [go_sem])
    have s2 := (hb1.cell (p := ⟨w.heap.size, 2, none⟩) (by simp)).trans (show _ = some (Value.string st) by simp [go_sem])
    have s3 := (hb1.cell (p := ⟨w.heap.size, 3, none⟩) (by simp)).trans (show _ = some (Value.string ad) by simp [go_sem])
    have s4 := (hb1.cell (p := ⟨w.heap.size, 4, none⟩) (by simp)).trans (show _ = some (Value.string wh) by simp [go_sem])
    have hz1 : w.heap.size < w1.heap.size := by have := hb1.size; simp at this; omega
    clear hb1
    go_wp2_with fail
    refine (join5_any _ w1.heap.size (affP ⟨f, false, st, ad, wh⟩) HSZ.out (by simp) ?hcc).mono ?_
    case hcc =>
      intro k hk
      match k with
      | 0 => simp [go_sem, affP]
      | 1 => simp [go_sem, affP]
      | 2 => simp [go_sem, affP]
      | 3 => simp [go_sem, affP]
      | 4 => simp [go_sem, affP]
    rintro e w2 ⟨rfl, hb2⟩
    have HB2 : Hid (Below w.heap.size w w2) := (HB1.out.alloc HB1.out.size _).trans (hb2.mono (by have := HB1.out.size; simp; omega))
    clear hb2 s0 s2 s3 s4
    have hal := accJ_length HSZ.out 4 (by omega)
    go_wp2
    go_ret
    refine ⟨?_, HB2.out⟩
    rw [← HL.out]
    rfl
set_option maxHeartbeats 1000000 in
theorem entryLine_any (s f : ByteArray) (w : World) (hs : s.size ≤ 1000) (hf : f.size ≤ 1000) :
    Calls Tryz.prog 93 #[.agg #[.string s, .string f]] w fun e w' => e = .returned (.string (mkT (lineE s f))) ∧ Below w.heap.size w w' := by
  by_cases h0 : f.size = 0
  · have hfe : f = ⟨#[]⟩ := bl_nil_size h0
    subst hfe
    have HL : Hid (s ++ ⟨#[10]⟩ = mkT (lineE s ⟨#[]⟩)) := text_of (by rw [bl_app]; rfl)
    go_enter Tryz.func93, Tryz.ntmps93
    go_wp2
    go_ret
    refine ⟨?_, (Below.refl _ _).alloc (Nat.le_refl _) _⟩
    rw [← HL.out]
    rfl
  · have hfe : f.toList.isEmpty = false := by
      rw [ByteArray.toList_eq]
      cases hh : f.data.toList with
      | nil => exact absurd (show f.data.toList.length = 0 by rw [hh]; rfl) h0
      | cons => rfl
    have HL : Hid (s ++ ⟨#[47]⟩ ++ f ++ ⟨#[10]⟩ = mkT (lineE s f)) := text_of (by rw [bl_app, bl_app, bl_app]; unfold lineE; rw [if_neg h0]; rfl)
    go_enter Tryz.func93, Tryz.ntmps93
    go_wp2
    go_ret
    refine ⟨?_, (Below.refl _ _).alloc (Nat.le_refl _) _⟩
    rw [← HL.out]
    rfl
end Go.Proofs.YtkepmjebnkcbgaaGreatDoor
/-
  impl.BookPut.
-/
namespace Go.Proofs.YtkepmjebnkcbgaaGreatDoor
open Go.RowKit
set_option linter.unusedVariables false
theorem builder_below8 {T e : TypeId} {B b : Nat} {bs : List Value} {w w' : World} (h : Lib.IsBuilder T e B b bs w) (hb : Below w.heap.size w w') : Lib.IsBuilder T e B b bs w' := by
  have key : ∀ p, Lib.BuilderAt T e B b p bs w → Lib.BuilderAt T e B b p bs w' := by
    rintro p ⟨hB, v, hbk, hown, hne⟩
    have hlt : b < w.heap.size := (Array.getElem?_eq_some_iff.1 hbk).1
    refine ⟨hB, v, (hb.block b hlt).trans hbk, ⟨hown.1, ?_⟩, hne⟩
    rcases hown.2 with h2 | ⟨g, cap, cur, hv, hg, hh, r⟩
    · exact .inl h2
    · have hg2 : g < w.heap.size := (Array.getElem?_eq_some_iff.1 hh).1
      exact .inr ⟨g, cap, cur, hv, hg, (hb.block g hg2).trans hh, r⟩
  exact h.imp (key _) (key _)
/-- The lines of affixes, and of entries. -/
def putA (xs : List Aff) : List UInt8 := xs.flatMap lineA
def putE (es : List (ByteArray × ByteArray)) : List UInt8 := es.flatMap fun e => lineE e.1 e.2
theorem putA_take {xs : List Aff} {k : Nat} {x : Aff} (hx : xs[k]? = some x) : putA (xs.take (k + 1)) = putA (xs.take k) ++ lineA x := by
  unfold putA
  rw [List.take_add_one, hx]
  simp
theorem putE_take {es : List (ByteArray × ByteArray)} {k : Nat} {x : ByteArray × ByteArray} (hx : es[k]? = some x) : putE (es.take (k + 1)) = putE (es.take k) ++ lineE x.1 x.2 := by
  unfold putE
  rw [List.take_add_one, hx]
  simp
/-- Affixes and entries whose texts are short. -/
def ShortA (x : Aff) : Prop := x.flag.size ≤ 1000 ∧ x.strip.size ≤ 1000 ∧ x.add.size ≤ 1000 ∧ x.wh.size ≤ 1000
theorem lineA_length {x : Aff} (h : ShortA x) : (lineA x).length ≤ 5006 := by
  have : ∀ k, k < 5 → (affP x k).size ≤ 1000 := by
    intro k hk
    match k with
    | 0 =>
      show (if x.front then (⟨#[102, 114, 111, 110, 116]⟩ : ByteArray) else ⟨#[101, 110, 100]⟩).size ≤ 1000
      split <;> decide
    | 1 => exact h.1
    | 2 => exact h.2.1
    | 3 => exact h.2.2.1
    | 4 => exact h.2.2.2
  have := accJ_length this 4 (by omega)
  simp only [lineA, List.length_append, List.length_cons, List.length_nil]
  omega
theorem lineE_length {s f : ByteArray} (h1 : s.size ≤ 1000) (h2 : f.size ≤ 1000) : (lineE s f).length ≤ 2002 := by
  unfold lineE
  split
  · simp only [List.length_append, List.length_cons, List.length_nil, bl_length]; omega
  · simp only [List.length_append, List.length_cons, List.length_nil, bl_length]; omega
theorem book_parts {xs : List Aff} {es : List (ByteArray × ByteArray)} (h : bookT xs es = true) : xs.length ≤ 8 ∧ es.length ≤ 24 ∧ (∀ (i : Nat) (x : Aff), xs[i]? = some x → ShortA x) ∧ ∀ (i : Nat) (x : ByteArray × ByteArray), es[i]? = some x → x.1.size ≤ 1000 ∧ x.2.size ≤ 1000 := by
  unfold bookT affsT entsT at h
  simp only [Bool.and_eq_true, decide_eq_true_eq, List.all_eq_true, List.mem_range] at h
  obtain ⟨⟨h1, h2⟩, h3, h4⟩ := h
  refine ⟨h1, h3, fun i x hx => ?_, fun i x hx => ?_⟩
  · have := h2 i (List.getElem?_eq_some_iff.1 hx).1
    rw [affAt_at hx] at this
    simp only [Bool.and_eq_true] at this
    obtain ⟨p1, p2, p3, _⟩ := affOk_parts this.1
    have hfl : x.flag.size ≤ 1 := by
      have := this.1
      unfold affOk flagT at this
      simp only [Bool.and_eq_true, decide_eq_true_eq] at this
      omega
    exact ⟨by omega, by omega, by omega, by omega⟩
  · have := h4 i (List.getElem?_eq_some_iff.1 hx).1
    have hen : entT x.1 x.2 = true := by
      cases hh : entT x.1 x.2 with
      | true => rfl
      | false => rw [entAt_no hx hh] at this; cases this
    unfold entT at hen
    simp only [Bool.and_eq_true] at hen
    have h5 := wok_sz hen.1
    have h6 : x.2.size ≤ 4 := by
      have := hen.2
      unfold flagsT at this
      simp only [Bool.and_eq_true, decide_eq_true_eq] at this
      omega
    exact ⟨by omega, by omega⟩
theorem putA_length {xs : List Aff} (h : ∀ (i : Nat) (x : Aff), xs[i]? = some x → ShortA x) : ∀ k, k ≤ xs.length → (putA (xs.take k)).length ≤ 5006 * k
  | 0, _ => by simp [putA]
  | k + 1, hk => by
    have hx : xs[k]? = some xs[k] := List.getElem?_eq_getElem (by omega)
    have h1 := putA_length h k (by omega)
    have h2 := lineA_length (h k _ hx)
    rw [putA_take hx, List.length_append]
    omega
theorem putE_length {es : List (ByteArray × ByteArray)} (h : ∀ (i : Nat) (x : ByteArray × ByteArray), es[i]? = some x → x.1.size ≤ 1000 ∧ x.2.size ≤ 1000) : ∀ k, k ≤ es.length → (putE (es.take k)).length ≤ 2002 * k
  | 0, _ => by simp [putE]
  | k + 1, hk => by
    have hx : es[k]? = some es[k] := List.getElem?_eq_getElem (by omega)
    have h1 := putE_length h k (by omega)
    have h2 := lineE_length (h k _ hx).1 (h k _ hx).2
    rw [putE_take hx, List.length_append]
    omega
/-- A book's text. -/
def bputT (xs : List Aff) (es : List (ByteArray × ByteArray)) : ByteArray := if bookT xs es then mkT (putA xs ++ putE es) else ⟨#[]⟩
set_option maxRecDepth 100000 in
set_option maxHeartbeats 2000000 in
theorem implBookPut_any (w : World) (va ve : Value) (xs : List Aff) (es : List (ByteArray × ByteArray)) (ha : AffsAt w va xs) (he : EntsAt w ve es) :
    Calls Tryz.prog 55 #[.agg #[va, ve]] w fun e w' => e = .returned (.string (bputT xs es)) ∧ Below w.heap.size w w' := by
  obtain ⟨a, cap, rfl, hc, hm⟩ := ha.form
  obtain ⟨a', cap', rfl, hc', hm'⟩ := he.form
  have HA : Hid (AffsAt w (.slice a xs.length cap) xs) := ha
  have HE : Hid (EntsAt w (.slice a' es.length cap') es) := he
  clear ha he
  go_enter Tryz.func55, Tryz.ntmps55
  go_wp2_with fail
  have HB0 : Hid (Below w.heap.size w (w.alloc (.cells #[.slice a xs.length cap, .slice a' es.length cap'] 43))) := (Below.refl _ _).alloc (Nat.le_refl _) _
  refine (implBookOk_any _ _ _ xs es (HA.out.below HB0.out) (HE.out.below HB0.out)).mono ?_
  rintro e w1 ⟨rfl, hb1⟩
  have HB1 : Hid (Below w.heap.size w w1) := HB0.out.trans (hb1.mono (by simp <;> omega))
  have c10 : w1.cell? ⟨w.heap.size, 0, none⟩ = some (.slice a xs.length cap) := (hb1.cell (p := ⟨w.heap.size, 0, none⟩) (by simp)).trans (by simp [go_sem])
  have c11 : w1.cell? ⟨w.heap.size, 1, none⟩ = some (.slice a' es.length cap') := (hb1.cell (p := ⟨w.heap.size, 1, none⟩) (by simp)).trans (by simp [go_sem])
  have hz1 : w.heap.size < w1.heap.size := by have := hb1.size; simp at this; omega
  clear hb1
  cases hok : bookT xs es with
  | false =>
    have HC : Hid (bputT xs es = ⟨#[]⟩) := by show bputT xs es = ⟨#[]⟩; simp [bputT, hok]
    go_wp2
    go_ret
    rw [HC.out]
    exact ⟨rfl, HB1.out⟩
  | true =>
    have HC : Hid (bputT xs es = mkT (putA xs ++ putE es)) := by show bputT xs es = _; simp [bputT, hok]
    obtain ⟨hl8, hl24, hsa, hse⟩ := book_parts hok
    have HSA : Hid (∀ (i : Nat) (x : Aff), xs[i]? = some x → ShortA x) := hsa
    have HSE : Hid (∀ (i : Nat) (x : ByteArray × ByteArray), es[i]? = some x → x.1.size ≤ 1000 ∧ x.2.size ≤ 1000) := hse
    clear hsa hse hok
    unfold maxLen at hm hm'
    go_wp2
    go_loopw [14] (fun i wr => ∃ (k : Nat), k ≤ xs.length ∧ i = .int .i64 k ∧ Lib.IsBuilder 111 5 w1.heap.size w1.heap.size (Lib.byteCells (putA (xs.take k))) wr ∧ Below w1.heap.size w1 wr) (fun i _ => xs.length - (intOf i).toNat)
    case atStart => exact ⟨0, Nat.zero_le _, rfl, .inl ⟨Nat.le_refl _, .slice none 0 0, Go.Deep.blk_alloc_new _ _, World.ownsRow_nil .., by simp [Value.ownBlock]⟩, (Below.refl _ _).alloc (Nat.le_refl _) _⟩
    case round =>
      obtain ⟨k, hk, rfl, hbd, hb⟩ := hrel
      have HB : Hid (Below w1.heap.size w1 wr) := hb
      have HBD : Hid (Lib.IsBuilder 111 5 w1.heap.size w1.heap.size (Lib.byteCells (putA (xs.take k))) wr) := hbd
      have HBw : Hid (Below w.heap.size w wr) := HB1.out.trans (hb.mono HB1.out.size)
      clear hb hbd
      by_cases hlt : k < xs.length
      · obtain ⟨b, off, cap2, x, hv, hbl, hx, hxf, e0, e1, e2, e3, e4⟩ := (HA.out.below HBw.out).at hlt
        cases hv
        have HX : Hid (xs[k]? = some x) := hx
        have HSX : Hid (ShortA x) := HSA.out k x hx
        have hla := putA_length HSA.out k hk
        have HLA : Hid ((putA (xs.take k)).length ≤ 5006 * k) := hla
        have HLL : Hid ((lineA x).length ≤ 5006) := lineA_length HSX.out
        obtain ⟨f, fr, st, ad, wh⟩ := x
        simp only at e0 e1 e2 e3 e4
        clear hx hxf hla
        go_wp2_with fail
        refine (affixLine_any ⟨f, fr, st, ad, wh⟩ _ HSX.out).mono ?_
        rintro e w2 ⟨rfl, hb2⟩
        have HB2 : Hid (Below wr.heap.size wr w2) := ((Below.refl _ _).alloc (Nat.le_refl _) _).trans (hb2.mono (by simp <;> omega))
        clear hb2 e0 e1 e2 e3 e4
        go_wp2_with fail
        refine (writeString_any w1.heap.size w1.heap.size _ (mkT (lineA ⟨f, fr, st, ad, wh⟩)) _ (builder_below8 HBD.out HB2.out) (by rw [Lib.byteCells_length]; have := HLA.out; omega) (by rw [← bl_length, bl_mk]; have := HLL.out; omega) (Nat.le_trans HB.out.size HB2.out.size)).mono ?_
        rintro e w3 ⟨⟨v3, rfl⟩, hbd3, hb3, _⟩
        have HB3 : Hid (Below w1.heap.size w1 w3) := (HB.out.trans (HB2.out.mono HB.out.size)).trans hb3
        have HBD3 : Hid (Lib.IsBuilder 111 5 w1.heap.size w1.heap.size (Lib.byteCells (putA (xs.take (k + 1)))) w3) := by
          rw [putA_take HX.out, byteCells_app, ← bl_mk (lineA ⟨f, fr, st, ad, wh⟩)]
          exact hbd3
        clear hbd3 hb3
        go_wp2
        go_roundw
        case rel => exact ⟨k + 1, by omega, by go_num, HBD3.out, HB3.out⟩
        case measure => simp [intOf]; omega
      · obtain rfl : k = xs.length := by omega
        rw [List.take_length] at HBD
        have hlA : (putA xs).length ≤ 5006 * xs.length := by have := putA_length HSA.out xs.length (Nat.le_refl _); rwa [List.take_length] at this
        have HLX : Hid ((putA xs).length ≤ 5006 * xs.length) := hlA
        have c21 : wr.cell? ⟨w.heap.size, 1, none⟩ = some (.slice a' es.length cap') := (HB.out.cell (p := ⟨w.heap.size, 1, none⟩) hz1).trans c11
        have hz2 : w.heap.size < wr.heap.size := Nat.lt_of_lt_of_le hz1 HB.out.size
        rename World => wo
        clear hlA
        go_wp2
        go_loopw [25] (fun i wr => ∃ (k : Nat), k ≤ es.length ∧ i = .int .i64 k ∧ Lib.IsBuilder 111 5 w1.heap.size w1.heap.size (Lib.byteCells (putA xs ++ putE (es.take k))) wr ∧ Below w1.heap.size w1 wr) (fun i _ => es.length - (intOf i).toNat)
        case atStart => exact ⟨0, Nat.zero_le _, rfl, by rw [show es.take 0 = [] from rfl]; simpa [putE] using HBD.out, HB.out⟩
        case round =>
          obtain ⟨k, hk, rfl, hbd, hb⟩ := hrel
          have HBe : Hid (Below w1.heap.size w1 wr) := hb
          have HBDe : Hid (Lib.IsBuilder 111 5 w1.heap.size w1.heap.size (Lib.byteCells (putA xs ++ putE (es.take k))) wr) := hbd
          have HBw2 : Hid (Below w.heap.size w wr) := HB1.out.trans (hb.mono HB1.out.size)
          clear hb hbd
          by_cases hlt : k < es.length
          · obtain ⟨b, off, cap2, x, hv, hbl, hx, _, e0, e1⟩ := (HE.out.below HBw2.out).at hlt
            cases hv
            have HX : Hid (es[k]? = some x) := hx
            have HSX := HSE.out k x hx
            have hla := putE_length HSE.out k hk
            have HLA : Hid ((putE (es.take k)).length ≤ 2002 * k) := hla
            obtain ⟨s, f⟩ := x
            simp only at e0 e1 HSX
            have HS1 : Hid (s.size ≤ 1000) := HSX.1
            have HS2 : Hid (f.size ≤ 1000) := HSX.2
            have HLL : Hid ((lineE s f).length ≤ 2002) := lineE_length HSX.1 HSX.2
            clear hx hla HSX
            go_wp2_with fail
            refine (entryLine_any s f _ HS1.out HS2.out).mono ?_
            rintro e w2 ⟨rfl, hb2⟩
            have HB2 : Hid (Below wr.heap.size wr w2) := ((Below.refl _ _).alloc (Nat.le_refl _) _).trans (hb2.mono (by simp <;> omega))
            clear hb2 e0 e1
            go_wp2_with fail
            refine (writeString_any w1.heap.size w1.heap.size _ (mkT (lineE s f)) _ (builder_below8 HBDe.out HB2.out) (by rw [Lib.byteCells_length, List.length_append]; have := HLA.out; have := HLX.out; omega) (by rw [← bl_length, bl_mk]; have := HLL.out; omega) (Nat.le_trans HBe.out.size HB2.out.size)).mono ?_
            rintro e w3 ⟨⟨v3, rfl⟩, hbd3, hb3, _⟩
            have HB3 : Hid (Below w1.heap.size w1 w3) := (HBe.out.trans (HB2.out.mono HBe.out.size)).trans hb3
            have HBD3 : Hid (Lib.IsBuilder 111 5 w1.heap.size w1.heap.size (Lib.byteCells (putA xs ++ putE (es.take (k + 1)))) w3) := by
              rw [putE_take HX.out, ← List.append_assoc, byteCells_app (putA xs ++ putE (es.take k))]
              have e : Lib.byteCells (lineE s f) = Lib.strCells (mkT (lineE s f)) := by rw [bl_cells, bl_mk]
              rw [e]
              exact hbd3
            clear hbd3 hb3
            go_wp2
            go_roundw
            case rel => exact ⟨k + 1, by omega, by go_num, HBD3.out, HB3.out⟩
            case measure => simp [intOf]; omega
          · obtain rfl : k = es.length := by omega
            rw [List.take_length] at HBDe
            go_wp2_with fail
            refine (Tryz.Builder_String_any _ _ (putA xs ++ putE es) _ HBDe.out HBe.out.size).mono ?_
            rintro e w5 ⟨rfl, hb5⟩
            have HB5 : Hid (Below w.heap.size w w5) := HB1.out.trans ((HBe.out.trans hb5).mono HB1.out.size)
            clear hb5
            go_wp2
            go_ret
            rw [HC.out]
            exact ⟨rfl, HB5.out⟩
end Go.Proofs.YtkepmjebnkcbgaaGreatDoor
