/-
  Books handed over: sizes.
-/
import Derived.Test.YthedglgljehmgaaGreatDoorW70
import Derived.Test.YthedglgljehmgaaGreatDoorGW27
import Derived.Test.YthedglgljehmgaaGreatDoorGW4
import Derived.Deep.RegionWith
namespace Go.Proofs.YthedglgljehmgaaGreatDoor
open Go.RowKit
set_option linter.unusedVariables false
theorem szA_le (a : Aff) (left : Int) (h : 0 ≤ left) : szA a left ≤ left := by
  unfold szA
  split
  · omega
  · split
    · omega
    · split
      · omega
      · split <;> omega
set_option maxHeartbeats 1000000 in
theorem szAffixS_any (w : World) (v : Value) (xs : List Aff) (left : Int) (h : AffsAt w v xs) (h0 : 0 ≤ left) (h1 : left ≤ 1048576) :
    Calls Tryz.prog 33 #[v, .int .i64 left] w fun e w' => (∃ r : Int, e = .returned (.int .i64 r) ∧ r ≤ left ∧ (0 ≤ r → xs.length ≤ 1048576)) ∧ Below w.heap.size w w' := by
  obtain ⟨a, cap, rfl, hc, hm⟩ := h.form
  have HS : Hid (AffsAt w (.slice a xs.length cap) xs) := h
  clear h
  unfold maxLen at hm
  by_cases hl : left - xs.length < 0
  · go_enter Tryz.func33, Tryz.ntmps33
    go_wp2
    go_ret
    exact ⟨⟨-1, rfl, by omega, by omega⟩, Below.refl _ _⟩
  · go_enter Tryz.func33, Tryz.ntmps33
    go_wp2
    go_loopw [1, 5] (fun l i wr => ∃ (k : Nat) (r : Int), k ≤ xs.length ∧ i = .int .i64 k ∧ l = .int .i64 r ∧ 0 ≤ r ∧ r ≤ left ∧ Below w.heap.size w wr) (fun _ i _ => xs.length - (intOf i).toNat)
    case atStart => exact ⟨0, _, Nat.zero_le _, rfl, rfl, by omega, by omega, Below.refl _ _⟩
    case round =>
      obtain ⟨k, r, hk, rfl, rfl, hr0, hr1, hb⟩ := hrel
      have HB : Hid (Below w.heap.size w wr) := hb
      clear hb
      by_cases hlt : k < xs.length
      · obtain ⟨b, off, cap', x, hv, hbl, hx, hxf, e0, e1, e2, e3, e4⟩ := (HS.out.below HB.out).at hlt
        cases hv
        obtain ⟨f, fr, st, ad, wh⟩ := x
        simp only at e0 e1 e2 e3 e4
        have HF : Hid (Aff.fits ⟨f, fr, st, ad, wh⟩) := hxf
        clear hx hxf
        go_wp2_with fail
        refine (szAffix_any ⟨f, fr, st, ad, wh⟩ _ _ HF.out (by omega) (by omega)).mono ?_
        rintro e w' ⟨rfl, hb'⟩
        have hle := szA_le ⟨f, fr, st, ad, wh⟩ r hr0
        have HB' : Hid (Below w.heap.size w w') := HB.out.trans (hb'.mono HB.out.size)
        generalize szA ⟨f, fr, st, ad, wh⟩ r = r' at *
        clear hb' e0 e1 e2 e3 e4
        by_cases hr : r' < 0
        · go_wp2
          go_ret
          exact ⟨⟨-1, rfl, by omega, by omega⟩, HB'.out⟩
        · go_wp2
          go_roundw
          case rel => exact ⟨k + 1, r', by omega, by go_num, rfl, by omega, by omega, HB'.out⟩
          case measure => simp [intOf]; omega
      · go_wp2
        go_ret
        exact ⟨⟨r, rfl, by omega, by omega⟩, HB.out⟩
set_option maxHeartbeats 1000000 in
theorem szEntry_any (s f : ByteArray) (left : Int) (w : World) (hs : s.size ≤ maxLen) (hf : f.size ≤ maxLen) (h0 : 0 ≤ left) (h1 : left ≤ 1048576) :
    Calls Tryz.prog 62 #[.agg #[.string s, .string f], .int .i64 left] w fun e w' => (∃ r : Int, e = .returned (.int .i64 r) ∧ r ≤ left) ∧ Below w.heap.size w w' := by
  unfold maxLen at hs hf
  by_cases c1 : left - s.size < 0
  · go_enter Tryz.func62, Tryz.ntmps62
    go_wp2
    go_ret
    exact ⟨⟨-1, rfl, by omega⟩, (Below.refl _ _).alloc (Nat.le_refl _) _⟩
  by_cases c2 : left - s.size - f.size < 0
  · go_enter Tryz.func62, Tryz.ntmps62
    go_wp2
    go_ret
    exact ⟨⟨-1, rfl, by omega⟩, (Below.refl _ _).alloc (Nat.le_refl _) _⟩
  · go_enter Tryz.func62, Tryz.ntmps62
    go_wp2
    go_ret
    exact ⟨⟨_, rfl, by omega⟩, (Below.refl _ _).alloc (Nat.le_refl _) _⟩
set_option maxHeartbeats 1000000 in
theorem szEntryS_any (w : World) (v : Value) (es : List (ByteArray × ByteArray)) (left : Int) (h : EntsAt w v es) (h0 : 0 ≤ left) (h1 : left ≤ 1048576) :
    Calls Tryz.prog 34 #[v, .int .i64 left] w fun e w' => (∃ r : Int, e = .returned (.int .i64 r) ∧ r ≤ left ∧ (0 ≤ r → es.length ≤ 1048576)) ∧ Below w.heap.size w w' := by
  obtain ⟨a, cap, rfl, hc, hm⟩ := h.form
  have HS : Hid (EntsAt w (.slice a es.length cap) es) := h
  clear h
  unfold maxLen at hm
  by_cases hl : left - es.length < 0
  · go_enter Tryz.func34, Tryz.ntmps34
    go_wp2
    go_ret
    exact ⟨⟨-1, rfl, by omega, by omega⟩, Below.refl _ _⟩
  · go_enter Tryz.func34, Tryz.ntmps34
    go_wp2
    go_loopw [1, 5] (fun l i wr => ∃ (k : Nat) (r : Int), k ≤ es.length ∧ i = .int .i64 k ∧ l = .int .i64 r ∧ 0 ≤ r ∧ r ≤ left ∧ Below w.heap.size w wr) (fun _ i _ => es.length - (intOf i).toNat)
    case atStart => exact ⟨0, _, Nat.zero_le _, rfl, rfl, by omega, by omega, Below.refl _ _⟩
    case round =>
      obtain ⟨k, r, hk, rfl, rfl, hr0, hr1, hb⟩ := hrel
      have HB : Hid (Below w.heap.size w wr) := hb
      clear hb
      by_cases hlt : k < es.length
      · obtain ⟨b, off, cap', x, hv, hbl, hx, ⟨hx1, hx2⟩, e0, e1⟩ := (HS.out.below HB.out).at hlt
        cases hv
        obtain ⟨s, f⟩ := x
        simp only at e0 e1 hx1 hx2
        have HF1 : Hid (s.size ≤ maxLen) := hx1
        have HF2 : Hid (f.size ≤ maxLen) := hx2
        clear hx hx1 hx2
        go_wp2_with fail
        refine (szEntry_any s f _ _ HF1.out HF2.out (by omega) (by omega)).mono ?_
        rintro e w' ⟨⟨r', rfl, hle⟩, hb'⟩
        have HB' : Hid (Below w.heap.size w w') := HB.out.trans (hb'.mono HB.out.size)
        clear hb' e0 e1
        by_cases hr : r' < 0
        · go_wp2
          go_ret
          exact ⟨⟨-1, rfl, by omega, by omega⟩, HB'.out⟩
        · go_wp2
          go_roundw
          case rel => exact ⟨k + 1, r', by omega, by go_num, rfl, by omega, by omega, HB'.out⟩
          case measure => simp [intOf]; omega
      · go_wp2
        go_ret
        exact ⟨⟨r, rfl, by omega, by omega⟩, HB.out⟩
set_option maxHeartbeats 1000000 in
theorem szBook_any (w : World) (va ve : Value) (xs : List Aff) (es : List (ByteArray × ByteArray)) (left : Int) (ha : AffsAt w va xs) (he : EntsAt w ve es) (h0 : 0 ≤ left) (h1 : left ≤ 1048576) :
    Calls Tryz.prog 10 #[.agg #[va, ve], .int .i64 left] w fun e w' => (∃ r : Int, e = .returned (.int .i64 r) ∧ (0 ≤ r → xs.length ≤ 1048576 ∧ es.length ≤ 1048576)) ∧ Below w.heap.size w w' := by
  obtain ⟨a, cap, rfl, hc, hm⟩ := ha.form
  obtain ⟨a', cap', rfl, hc', hm'⟩ := he.form
  have HA : Hid (AffsAt w (.slice a xs.length cap) xs) := ha
  have HE : Hid (EntsAt w (.slice a' es.length cap') es) := he
  clear ha he
  go_enter Tryz.func10, Tryz.ntmps10
  go_wp2_with fail
  refine (szAffixS_any _ _ xs _ (HA.out.below ((Below.refl _ _).alloc (Nat.le_refl _) _)) (by omega) (by omega)).mono ?_
  rintro e w1 ⟨⟨r, rfl, hr1, hr2⟩, hb1⟩
  have HB1 : Hid (Below w.heap.size w w1) := Below.trans ((Below.refl _ _).alloc (Nat.le_refl _) _) (hb1.mono (by simp <;> omega))
  have HR : Hid (0 ≤ r → xs.length ≤ 1048576) := hr2
  have hcl : w1.cell? ⟨w.heap.size, 1, none⟩ = some (.slice a' es.length cap') := (hb1.cell (p := ⟨w.heap.size, 1, none⟩) (by simp)).trans (by simp [go_sem])
  have hz : w.heap.size < w1.heap.size := by have := hb1.size; simp at this; omega
  clear hb1 hr2
  by_cases hr : r < 0
  · go_wp2
    go_ret
    exact ⟨⟨-1, rfl, by omega⟩, HB1.out⟩
  · go_wp2_with fail
    refine (szEntryS_any _ _ es _ (HE.out.below HB1.out) (by omega) (by omega)).mono ?_
    rintro e w2 ⟨⟨q, rfl, hq1, hq2⟩, hb2⟩
    have HB2 : Hid (Below w.heap.size w w2) := HB1.out.trans (hb2.mono HB1.out.size)
    have HQ : Hid (0 ≤ q → es.length ≤ 1048576) := hq2
    clear hb2 hq2 hcl
    by_cases hq : q < 0
    · go_wp2
      go_ret
      exact ⟨⟨-1, rfl, by omega⟩, HB2.out⟩
    · go_wp2
      go_ret
      exact ⟨⟨q, rfl, fun _ => ⟨HR.out (by omega), HQ.out (by omega)⟩⟩, HB2.out⟩
end Go.Proofs.YthedglgljehmgaaGreatDoor
/-
  Books handed over: copies.
-/
namespace Go.Proofs.YthedglgljehmgaaGreatDoor
open Go.RowKit
set_option linter.unusedVariables false
theorem rowIs_below7 {w w' : World} {b : Nat} {t : TypeId} {n : Nat} {f : Nat → Value} (h : w.rowIs b t n f) (hb : Below w.heap.size w w') : w'.rowIs b t n f := h.of_block (hb.block b h.lt)
theorem rowIs_made7 (w : World) (z : Array Value) (n : Nat) (t : TypeId) : ∃ f, (w.alloc (.cells (madeCells z n) t)).rowIs w.heap.size t n f :=
  ⟨fun i => (madeCells z n)[i]?.getD .nilFunc, _, Go.Deep.blk_alloc_new _ _, size_madeCells _ _, fun i hi => by
    have : i < (madeCells z n).size := by rw [size_madeCells]; exact hi
    simp [Array.getElem?_eq_getElem this]⟩
/-- make of a row of several cells an element. -/
theorem run_make7 (P : Program) (t e : TypeId) (zs : Array Value) (size bytes : Nat) (ht : P.underlying t = some (.slice e)) (hinfo : (P.info? e).map (fun i => (i.zero, i.size, i.bytes)) = some (some (.agg zs), size, bytes))
    (n : Nat) (hbytes : bytes * n ≤ 281474976710656) (h63 : n ≤ 9223372036854775807) (w : World) :
    (Instr.makeSlice t (.int .i64 (n : Int)) (.int .i64 (n : Int))).run P w = .ok (.slice (some ⟨w.heap.size, 0, none⟩) n n) (w.alloc (.cells (madeCells zs (n * size)) e)) := by
  obtain ⟨i, hi, hz, hs, hb⟩ := info_parts hinfo
  have hb' : (i.bytes : Int) * (n : Int) ≤ 281474976710656 := by
    have h : ((i.bytes * n : Nat) : Int) ≤ 281474976710656 := by rw [hb]; omega
    rwa [Int.natCast_mul] at h
  have hr := run_make (P := P) w t e i _ ht hi hz .i64 .i64 n n (by omega) (Int.le_refl _) hb' (by omega)
  simp only [Int.toNat_natCast, hs] at hr
  exact hr
/-- Five cells of a row are written. -/
theorem rowIs_set5 {w : World} {b : Nat} {t : TypeId} {n : Nat} {f : Nat → Value} (h : w.rowIs b t n f) (k : Nat) (v0 v1 v2 v3 v4 : Value) :
    (((((w.setCell ⟨b, k * 5, none⟩ v0).setCell ⟨b, k * 5 + 1, none⟩ v1).setCell ⟨b, k * 5 + 2, none⟩ v2).setCell ⟨b, k * 5 + 3, none⟩ v3).setCell ⟨b, k * 5 + 4, none⟩ v4).rowIs b t n (fun j => if j = k * 5 + 4 then v4 else if j = k * 5 + 3 then v3 else if j = k * 5 + 2 then v2 else if j = k * 5 + 1 then v1 else if j = k * 5 then v0 else f j) :=
  ((((h.set (k * 5) v0).set (k * 5 + 1) v1).set (k * 5 + 2) v2).set (k * 5 + 3) v3).set (k * 5 + 4) v4
theorem rowIs_set7 {w : World} {b : Nat} {t : TypeId} {n : Nat} {f : Nat → Value} (h : w.rowIs b t n f) (k : Nat) (v0 v1 : Value) :
    ((w.setCell ⟨b, k * 2, none⟩ v0).setCell ⟨b, k * 2 + 1, none⟩ v1).rowIs b t n (fun j => if j = k * 2 + 1 then v1 else if j = k * 2 then v0 else f j) :=
  (h.set (k * 2) v0).set (k * 2 + 1) v1
/-- Affixes so far. -/
def AffsTo (k : Nat) (xs : List Aff) (f : Nat → Value) : Prop :=
  ∀ (j : Nat) (x : Aff), j < k → xs[j]? = some x → f (j * 5) = .string x.flag ∧ f (j * 5 + 1) = .bool x.front ∧ f (j * 5 + 2) = .string x.strip ∧ f (j * 5 + 3) = .string x.add ∧ f (j * 5 + 4) = .string x.wh
theorem AffsTo.next {k : Nat} {xs : List Aff} {f : Nat → Value} (h : AffsTo k xs f) {x : Aff} (hx : xs[k]? = some x) :
    AffsTo (k + 1) xs (fun j => if j = k * 5 + 4 then .string x.wh else if j = k * 5 + 3 then .string x.add else if j = k * 5 + 2 then .string x.strip else if j = k * 5 + 1 then .bool x.front else if j = k * 5 then .string x.flag else f j) := by
  intro j y hj hy
  by_cases e : j = k
  · subst e
    rw [hx] at hy
    cases hy
    refine ⟨?_, ?_, ?_, ?_, ?_⟩
    · show (if j * 5 = j * 5 + 4 then _ else if j * 5 = j * 5 + 3 then _ else if j * 5 = j * 5 + 2 then _ else if j * 5 = j * 5 + 1 then _ else if j * 5 = j * 5 then _ else _) = _
      rw [if_neg (by omega), if_neg (by omega), if_neg (by omega), if_neg (by omega), if_pos rfl]
    · show (if j * 5 + 1 = j * 5 + 4 then _ else if j * 5 + 1 = j * 5 + 3 then _ else if j * 5 + 1 = j * 5 + 2 then _ else if j * 5 + 1 = j * 5 + 1 then _ else _) = _
      rw [if_neg (by omega), if_neg (by omega), if_neg (by omega), if_pos rfl]
    · show (if j * 5 + 2 = j * 5 + 4 then _ else if j * 5 + 2 = j * 5 + 3 then _ else if j * 5 + 2 = j * 5 + 2 then _ else _) = _
      rw [if_neg (by omega), if_neg (by omega), if_pos rfl]
    · show (if j * 5 + 3 = j * 5 + 4 then _ else if j * 5 + 3 = j * 5 + 3 then _ else _) = _
      rw [if_neg (by omega), if_pos rfl]
    · show (if j * 5 + 4 = j * 5 + 4 then _ else _) = _
      rw [if_pos rfl]
  · have key : ∀ i, i < 5 → (fun j => if j = k * 5 + 4 then Value.string x.wh else if j = k * 5 + 3 then .string x.add else if j = k * 5 + 2 then .string x.strip else if j = k * 5 + 1 then .bool x.front else if j = k * 5 then .string x.flag else f j) (j * 5 + i) = f (j * 5 + i) := by
      intro i hi
      show (if j * 5 + i = k * 5 + 4 then Value.string x.wh else if j * 5 + i = k * 5 + 3 then .string x.add else if j * 5 + i = k * 5 + 2 then .string x.strip else if j * 5 + i = k * 5 + 1 then .bool x.front else if j * 5 + i = k * 5 then .string x.flag else f (j * 5 + i)) = _
      rw [if_neg (by omega), if_neg (by omega), if_neg (by omega), if_neg (by omega), if_neg (by omega)]
    obtain ⟨h0, h1, h2, h3, h4⟩ := h j y (by omega) hy
    exact ⟨(key 0 (by omega)).trans h0, (key 1 (by omega)).trans h1, (key 2 (by omega)).trans h2, (key 3 (by omega)).trans h3, (key 4 (by omega)).trans h4⟩
theorem AffsTo.done {g : Nat} {xs : List Aff} {wr : World} {f : Nat → Value} {t : TypeId} (h : AffsTo xs.length xs f) (hr : wr.rowIs g t (xs.length * 5) f) (hm : xs.length ≤ maxLen) (hf : ∀ (i : Nat) (x : Aff), xs[i]? = some x → x.fits) :
    AffsAt wr (.slice (some ⟨g, 0, none⟩) xs.length xs.length) xs := by
  refine ⟨_, xs.length, rfl, Nat.le_refl _, hm, hf, fun _ => ⟨g, 0, rfl, hr.lt, fun i x hx => ?_⟩⟩
  have hi := (List.getElem?_eq_some_iff.1 hx).1
  obtain ⟨h0, h1, h2, h3, h4⟩ := h i x hi hx
  rw [Nat.zero_add]
  exact ⟨(hr.cell (by omega)).trans (by rw [h0]), (hr.cell (by omega)).trans (by rw [h1]), (hr.cell (by omega)).trans (by rw [h2]), (hr.cell (by omega)).trans (by rw [h3]), (hr.cell (by omega)).trans (by rw [h4])⟩
theorem AffsAt.fit {w : World} {v : Value} {xs : List Aff} (h : AffsAt w v xs) : ∀ (i : Nat) (x : Aff), xs[i]? = some x → x.fits := by
  obtain ⟨a, cap, hv, hc, hm, hf, hh⟩ := h
  exact hf
theorem EntsAt.fit {w : World} {v : Value} {es : List (ByteArray × ByteArray)} (h : EntsAt w v es) : ∀ (i : Nat) (x : ByteArray × ByteArray), es[i]? = some x → x.1.size ≤ maxLen ∧ x.2.size ≤ maxLen := by
  obtain ⟨a, cap, hv, hc, hm, hf, hh⟩ := h
  exact hf
theorem AffsAt.set {w : World} {b off n cap : Nat} {xs : List Aff} (h : AffsAt w (.slice (some ⟨b, off, none⟩) n cap) xs) {p : Addr} (hp : b ≠ p.block) (u : Value) : AffsAt (w.setCell p u) (.slice (some ⟨b, off, none⟩) n cap) xs := by
  obtain ⟨a, cap', hv, hc, hm, hf, hh⟩ := h
  cases hv
  refine ⟨_, cap, rfl, hc, hm, hf, fun hn => ?_⟩
  obtain ⟨b', off', ha, h2, h3⟩ := hh hn
  cases ha
  have e1 := Below.heap_setCell w p u b hp
  refine ⟨b, off, rfl, by simpa [World.setCell] using h2, fun i x hx => ?_⟩
  obtain ⟨c0, c1, c2, c3, c4⟩ := h3 i x hx
  exact ⟨(World.cell?_of_block (w := w) (a := ⟨b, _, none⟩) e1).trans c0, (World.cell?_of_block (w := w) (a := ⟨b, _, none⟩) e1).trans c1, (World.cell?_of_block (w := w) (a := ⟨b, _, none⟩) e1).trans c2, (World.cell?_of_block (w := w) (a := ⟨b, _, none⟩) e1).trans c3, (World.cell?_of_block (w := w) (a := ⟨b, _, none⟩) e1).trans c4⟩
theorem EntsAt.set {w : World} {b off n cap : Nat} {es : List (ByteArray × ByteArray)} (h : EntsAt w (.slice (some ⟨b, off, none⟩) n cap) es) {p : Addr} (hp : b ≠ p.block) (u : Value) : EntsAt (w.setCell p u) (.slice (some ⟨b, off, none⟩) n cap) es := by
  obtain ⟨a, cap', hv, hc, hm, hf, hh⟩ := h
  cases hv
  refine ⟨_, cap, rfl, hc, hm, hf, fun hn => ?_⟩
  obtain ⟨b', off', ha, h2, h3⟩ := hh hn
  cases ha
  have e1 := Below.heap_setCell w p u b hp
  refine ⟨b, off, rfl, by simpa [World.setCell] using h2, fun i x hx => ?_⟩
  obtain ⟨c0, c1⟩ := h3 i x hx
  exact ⟨(World.cell?_of_block (w := w) (a := ⟨b, _, none⟩) e1).trans c0, (World.cell?_of_block (w := w) (a := ⟨b, _, none⟩) e1).trans c1⟩
/-- Entries so far. -/
def EntsTo (k : Nat) (es : List (ByteArray × ByteArray)) (f : Nat → Value) : Prop :=
  ∀ (j : Nat) (x : ByteArray × ByteArray), j < k → es[j]? = some x → f (j * 2) = .string x.1 ∧ f (j * 2 + 1) = .string x.2
theorem EntsTo.next {k : Nat} {es : List (ByteArray × ByteArray)} {f : Nat → Value} (h : EntsTo k es f) {x : ByteArray × ByteArray} (hx : es[k]? = some x) :
    EntsTo (k + 1) es (fun j => if j = k * 2 + 1 then .string x.2 else if j = k * 2 then .string x.1 else f j) := by
  intro j y hj hy
  show (if j * 2 = k * 2 + 1 then Value.string x.2 else if j * 2 = k * 2 then .string x.1 else f (j * 2)) = _ ∧ (if j * 2 + 1 = k * 2 + 1 then Value.string x.2 else if j * 2 + 1 = k * 2 then .string x.1 else f (j * 2 + 1)) = _
  by_cases e : j = k
  · subst e
    rw [hx] at hy
    cases hy
    rw [if_neg (by omega), if_pos rfl, if_pos rfl]
    exact ⟨rfl, rfl⟩
  · rw [if_neg (by omega), if_neg (by omega), if_neg (by omega), if_neg (by omega)]
    exact h j y (by omega) hy
theorem EntsTo.done {g : Nat} {es : List (ByteArray × ByteArray)} {wr : World} {f : Nat → Value} {t : TypeId} (h : EntsTo es.length es f) (hr : wr.rowIs g t (es.length * 2) f) (hm : es.length ≤ maxLen) (hf : ∀ (i : Nat) (x : ByteArray × ByteArray), es[i]? = some x → x.1.size ≤ maxLen ∧ x.2.size ≤ maxLen) :
    EntsAt wr (.slice (some ⟨g, 0, none⟩) es.length es.length) es := by
  refine ⟨_, es.length, rfl, Nat.le_refl _, hm, hf, fun _ => ⟨g, 0, rfl, hr.lt, fun i x hx => ?_⟩⟩
  have hi := (List.getElem?_eq_some_iff.1 hx).1
  obtain ⟨h0, h1⟩ := h i x hi hx
  rw [Nat.zero_add]
  exact ⟨(hr.cell (by omega)).trans (by rw [h0]), (hr.cell (by omega)).trans (by rw [h1])⟩
theorem Tryz.info_affix : (Tryz.prog.info? 77).map (fun i => (i.zero, i.size, i.bytes)) = some (some (.agg #[.string ⟨#[]⟩, .bool false, .string ⟨#[]⟩, .string ⟨#[]⟩, .string ⟨#[]⟩]), 5, 72) := by kernel_rfl
theorem Tryz.info_entry : (Tryz.prog.info? 80).map (fun i => (i.zero, i.size, i.bytes)) = some (some (.agg #[.string ⟨#[]⟩, .string ⟨#[]⟩]), 2, 32) := by kernel_rfl
set_option maxHeartbeats 1000000 in
theorem toAffixS_any (w : World) (v : Value) (xs : List Aff) (h : AffsAt w v xs) (hn : xs.length ≤ 1048576) :
    Calls Tryz.prog 35 #[v] w fun e w' => e = .returned (.slice (some ⟨w.heap.size, 0, none⟩) xs.length xs.length) ∧ AffsAt w' (.slice (some ⟨w.heap.size, 0, none⟩) xs.length xs.length) xs ∧ Below w.heap.size w w' := by
  obtain ⟨a, cap, rfl, hc, hm⟩ := h.form
  have HS : Hid (AffsAt w (.slice a xs.length cap) xs) := h
  clear h
  have hmk := run_make7 Tryz.prog 23 77 _ _ _ Tryz.underlying23 Tryz.info_affix xs.length (by omega) (by omega)
  obtain ⟨f0, hf0⟩ := rowIs_made7 w #[.string ⟨#[]⟩, .bool false, .string ⟨#[]⟩, .string ⟨#[]⟩, .string ⟨#[]⟩] (xs.length * 5) 77
  have HF : Hid ((w.alloc (.cells (madeCells #[.string ⟨#[]⟩, .bool false, .string ⟨#[]⟩, .string ⟨#[]⟩, .string ⟨#[]⟩] (xs.length * 5)) 77)).rowIs w.heap.size 77 (xs.length * 5) f0) := hf0
  clear hf0
  go_enter Tryz.func35, Tryz.ntmps35
  go_wp2
  go_loopw [4] (fun i wr => ∃ (k : Nat) (f : Nat → Value), k ≤ xs.length ∧ i = .int .i64 k ∧ wr.rowIs w.heap.size 77 (xs.length * 5) f ∧ AffsTo k xs f ∧ Below w.heap.size w wr) (fun i _ => xs.length - (intOf i).toNat)
  case atStart => exact ⟨0, f0, Nat.zero_le _, rfl, HF.out, fun j s hj => absurd hj (by omega), (Below.refl _ _).alloc (Nat.le_refl _) _⟩
  case round =>
    obtain ⟨k, f, hk, rfl, hrow, hall, hb⟩ := hrel
    have HA : Hid (AffsTo k xs f) := hall
    have HB : Hid (Below w.heap.size w wr) := hb
    have HW : Hid (wr.rowIs w.heap.size 77 (xs.length * 5) f) := hrow
    clear hall hb hrow
    by_cases hlt : k < xs.length
    · obtain ⟨b, off, cap', x, hv, hbl, hx, hxf, e0, e1, e2, e3, e4⟩ := (HS.out.below HB.out).at hlt
      cases hv
      have HX : Hid (xs[k]? = some x) := hx
      obtain ⟨fl, fr, st, ad, wh⟩ := x
      simp only at e0 e1 e2 e3 e4
      clear hx hxf
      go_wp2_with fail
      refine (toAffix_any ⟨fl, fr, st, ad, wh⟩ _).mono ?_
      rintro e w' ⟨rfl, hb'⟩
      unfold Aff.cells
      have HW' : Hid (w'.rowIs w.heap.size 77 (xs.length * 5) f) := rowIs_below7 HW.out hb'
      have HB' : Hid (Below w.heap.size w w') := HB.out.trans (hb'.mono HB.out.size)
      have d0 := HW'.out.cell (i := k * 5) (by omega)
      have d1 := HW'.out.cell (i := k * 5 + 1) (by omega)
      have d2 := HW'.out.cell (i := k * 5 + 2) (by omega)
      have d3 := HW'.out.cell (i := k * 5 + 3) (by omega)
      have d4 := HW'.out.cell (i := k * 5 + 4) (by omega)
      have g0 := HW'.out.frozen (k * 5)
      have g1 := HW'.out.frozen (k * 5 + 1)
      have g2 := HW'.out.frozen (k * 5 + 2)
      have g3 := HW'.out.frozen (k * 5 + 3)
      have g4 := HW'.out.frozen (k * 5 + 4)
      clear hb' e0 e1 e2 e3 e4
      go_wp2
      go_roundw
      case rel => exact ⟨k + 1, _, by omega, by go_num, rowIs_set5 HW'.out k _ _ _ _ _, HA.out.next HX.out, ((((HB'.out.setCell (Nat.le_refl _) _).setCell (Nat.le_refl _) _).setCell (Nat.le_refl _) _).setCell (Nat.le_refl _) _).setCell (Nat.le_refl _) _⟩
      case measure => simp [intOf]; omega
    · obtain rfl : k = xs.length := by omega
      go_wp2
      go_ret
      exact ⟨rfl, HA.out.done HW.out (by unfold maxLen; omega) HS.out.fit, HB.out⟩
set_option maxHeartbeats 1000000 in
theorem toEntry_any (s f : ByteArray) (w : World) :
    Calls Tryz.prog 64 #[.agg #[.string s, .string f]] w fun e w' => e = .returned (.agg #[.string s, .string f]) ∧ Below w.heap.size w w' := by
  go_enter Tryz.func64, Tryz.ntmps64
  go_wp2
  refine bodyPost_ret (v := .agg #[.string s, .string f]) (by simp [results, Tryz.results64, go_sem]) rfl ⟨rfl, ?_⟩
  exact (((Below.refl _ _).alloc (Nat.le_refl _) _).alloc (by simp) _).alloc (by simp <;> omega) _
set_option maxHeartbeats 1000000 in
theorem toEntryS_any (w : World) (v : Value) (es : List (ByteArray × ByteArray)) (h : EntsAt w v es) (hn : es.length ≤ 1048576) :
    Calls Tryz.prog 36 #[v] w fun e w' => e = .returned (.slice (some ⟨w.heap.size, 0, none⟩) es.length es.length) ∧ EntsAt w' (.slice (some ⟨w.heap.size, 0, none⟩) es.length es.length) es ∧ Below w.heap.size w w' := by
  obtain ⟨a, cap, rfl, hc, hm⟩ := h.form
  have HS : Hid (EntsAt w (.slice a es.length cap) es) := h
  clear h
  have hmk := run_make7 Tryz.prog 24 80 _ _ _ Tryz.underlying24 Tryz.info_entry es.length (by omega) (by omega)
  obtain ⟨f0, hf0⟩ := rowIs_made7 w #[.string ⟨#[]⟩, .string ⟨#[]⟩] (es.length * 2) 80
  have HF : Hid ((w.alloc (.cells (madeCells #[.string ⟨#[]⟩, .string ⟨#[]⟩] (es.length * 2)) 80)).rowIs w.heap.size 80 (es.length * 2) f0) := hf0
  clear hf0
  go_enter Tryz.func36, Tryz.ntmps36
  go_wp2
  go_loopw [4] (fun i wr => ∃ (k : Nat) (f : Nat → Value), k ≤ es.length ∧ i = .int .i64 k ∧ wr.rowIs w.heap.size 80 (es.length * 2) f ∧ EntsTo k es f ∧ Below w.heap.size w wr) (fun i _ => es.length - (intOf i).toNat)
  case atStart => exact ⟨0, f0, Nat.zero_le _, rfl, HF.out, fun j s hj => absurd hj (by omega), (Below.refl _ _).alloc (Nat.le_refl _) _⟩
  case round =>
    obtain ⟨k, f, hk, rfl, hrow, hall, hb⟩ := hrel
    have HA : Hid (EntsTo k es f) := hall
    have HB : Hid (Below w.heap.size w wr) := hb
    have HW : Hid (wr.rowIs w.heap.size 80 (es.length * 2) f) := hrow
    clear hall hb hrow
    by_cases hlt : k < es.length
    · obtain ⟨b, off, cap', x, hv, hbl, hx, hxf, e0, e1⟩ := (HS.out.below HB.out).at hlt
      cases hv
      have HX : Hid (es[k]? = some x) := hx
      obtain ⟨s, fl⟩ := x
      simp only at e0 e1
      clear hx hxf
      go_wp2_with fail
      refine (toEntry_any s fl _).mono ?_
      rintro e w' ⟨rfl, hb'⟩
      have HW' : Hid (w'.rowIs w.heap.size 80 (es.length * 2) f) := rowIs_below7 HW.out hb'
      have HB' : Hid (Below w.heap.size w w') := HB.out.trans (hb'.mono HB.out.size)
      have d0 := HW'.out.cell (i := k * 2) (by omega)
      have d1 := HW'.out.cell (i := k * 2 + 1) (by omega)
      have g0 := HW'.out.frozen (k * 2)
      have g1 := HW'.out.frozen (k * 2 + 1)
      clear hb' e0 e1
      go_wp2
      go_roundw
      case rel => exact ⟨k + 1, _, by omega, by go_num, rowIs_set7 HW'.out k _ _, HA.out.next HX.out, (HB'.out.setCell (Nat.le_refl _) _).setCell (Nat.le_refl _) _⟩
      case measure => simp [intOf]; omega
    · obtain rfl : k = es.length := by omega
      go_wp2
      go_ret
      exact ⟨rfl, HA.out.done HW.out (by unfold maxLen; omega) HS.out.fit, HB.out⟩
end Go.Proofs.YthedglgljehmgaaGreatDoor
/-
  Books: toBook; eqBook where both are the same.
-/
namespace Go.Proofs.YthedglgljehmgaaGreatDoor
open Go.RowKit
set_option linter.unusedVariables false
theorem bcell7 {W w1 : World} (hb : Below W.heap.size W w1) : (∀ b o, b < W.heap.size → w1.cell? ⟨b, o, none⟩ = W.cell? ⟨b, o, none⟩) ∧ (∀ b o, b < W.heap.size → w1.frozen? ⟨b, o, none⟩ = W.frozen? ⟨b, o, none⟩) :=
  ⟨fun b o h => hb.cell (p := ⟨b, o, none⟩) h, fun b o h => hb.frozen (p := ⟨b, o, none⟩) h⟩
set_option maxHeartbeats 1000000 in
theorem toBook_any (w : World) (va ve : Value) (xs : List Aff) (es : List (ByteArray × ByteArray)) (ha : AffsAt w va xs) (he : EntsAt w ve es) (hn : xs.length ≤ 1048576) (hn' : es.length ≤ 1048576) :
    Calls Tryz.prog 11 #[.agg #[va, ve]] w fun e w' => ∃ va' ve', e = .returned (.agg #[va', ve']) ∧ AffsAt w' va' xs ∧ EntsAt w' ve' es ∧ Below w.heap.size w w' := by
  obtain ⟨a, cap, rfl, hc, hm⟩ := ha.form
  obtain ⟨a', cap', rfl, hc', hm'⟩ := he.form
  have HA : Hid (AffsAt w (.slice a xs.length cap) xs) := ha
  have HE : Hid (EntsAt w (.slice a' es.length cap') es) := he
  clear ha he
  go_enter Tryz.func11, Tryz.ntmps11
  go_wp2_with fail
  refine (toAffixS_any _ _ xs (HA.out.below ?b1) hn).mono ?_
  case b1 => exact (((Below.refl _ _).alloc (Nat.le_refl _) _).alloc (by simp) _).alloc (by simp <;> omega) _
  rintro e w1 ⟨rfl, hA1, hb1⟩
  have HB1 : Hid (Below w.heap.size w w1) := Below.trans ((((Below.refl _ _).alloc (Nat.le_refl _) _).alloc (by simp) _).alloc (by simp <;> omega) _) (hb1.mono (by simp <;> omega))
  obtain ⟨hcl, hfz⟩ := bcell7 hb1
  have hz := hb1.size
  simp only [World.size_alloc] at hA1
  have HA1 : Hid (AffsAt w1 (.slice (some ⟨w.heap.size + 1 + 1 + 1, 0, none⟩) xs.length xs.length) xs) := hA1
  simp at hz
  clear hb1 hA1
  go_wp2_with fail
  refine (toEntryS_any _ _ es (HE.out.below (HB1.out.setCell (by simp <;> omega) _)) hn').mono ?_
  rintro e w3 ⟨rfl, hE3, hb3⟩
  have HB3 : Hid (Below w.heap.size w w3) := (HB1.out.setCell (by simp <;> omega) _).trans (hb3.mono (by rw [Go.Deep.nblk_setCell]; omega))
  obtain ⟨hcl3, hfz3⟩ := bcell7 hb3
  have hz3 := hb3.size
  rw [Go.Deep.nblk_setCell] at hz3
  have HA3 : Hid (AffsAt w3 (.slice (some ⟨w.heap.size + 1 + 1 + 1, 0, none⟩) xs.length xs.length) xs) := (HA1.out.set (p := ⟨w.heap.size + 1 + 1, 0, none⟩) (by simp) _).below hb3
  rw [Go.Deep.nblk_setCell] at hE3 ⊢
  have HE3 : Hid (EntsAt w3 (.slice (some ⟨w1.heap.size, 0, none⟩) es.length es.length) es) := hE3
  simp only [Go.Deep.nblk_setCell] at hcl3 hfz3
  have l1 : w.heap.size + 1 < w1.heap.size := by omega
  have l2 : w.heap.size + 1 + 1 < w1.heap.size := by omega
  have q10 : w3.cell? ⟨w.heap.size + 1, 0, none⟩ = some (.slice none 0 0) := by rw [hcl3 _ _ l1, World.cell?_setCell_other _ _ _ _ (by simp), hcl _ _ (by simp)]; simp [go_sem]
  have q11 : w3.cell? ⟨w.heap.size + 1, 1, none⟩ = some (.slice none 0 0) := by rw [hcl3 _ _ l1, World.cell?_setCell_other _ _ _ _ (by simp), hcl _ _ (by simp)]; simp [go_sem]
  have q20 : w3.cell? ⟨w.heap.size + 1 + 1, 0, none⟩ = some (.slice (some ⟨w.heap.size + 1 + 1 + 1, 0, none⟩) xs.length xs.length) := by rw [hcl3 _ _ l2]; exact World.cell?_setCell_same' _ _ _ (by rw [hcl _ _ (by simp)]; simp [go_sem])
  have q21 : w3.cell? ⟨w.heap.size + 1 + 1, 1, none⟩ = some (.slice none 0 0) := by rw [hcl3 _ _ l2, World.cell?_setCell_other _ _ _ _ (by simp), hcl _ _ (by simp)]; simp [go_sem]
  have z10 : w3.frozen? ⟨w.heap.size + 1, 0, none⟩ = false := by rw [hfz3 _ _ l1, World.frozen?_setCell, hfz _ _ (by simp)]; simp [go_sem]
  have z11 : w3.frozen? ⟨w.heap.size + 1, 1, none⟩ = false := by rw [hfz3 _ _ l1, World.frozen?_setCell, hfz _ _ (by simp)]; simp [go_sem]
  have z21 : w3.frozen? ⟨w.heap.size + 1 + 1, 1, none⟩ = false := by rw [hfz3 _ _ l2, World.frozen?_setCell, hfz _ _ (by simp)]; simp [go_sem]
  clear hb3 hE3 hcl hfz hcl3 hfz3
  go_wp2
  refine bodyPost_ret (v := .agg #[.slice (some ⟨w.heap.size + 1 + 1 + 1, 0, none⟩) xs.length xs.length, .slice (some ⟨w1.heap.size, 0, none⟩) es.length es.length]) (by simp [results, Tryz.results11, go_sem, q10, q11, World.cell?_setCell_same', World.cell?_setCell_other]) rfl ⟨_, _, rfl, ?_, ?_, ?_⟩
  · exact ((HA3.out.set (by simp <;> omega) _).set (by simp <;> omega) _).set (by simp <;> omega) _
  · exact ((HE3.out.set (by simp <;> omega) _).set (by simp <;> omega) _).set (by simp <;> omega) _
  · exact ((HB3.out.setCell (by simp <;> omega) _).setCell (by simp <;> omega) _).setCell (by simp <;> omega) _
set_option maxHeartbeats 1000000 in
theorem eqEntry_same (s f : ByteArray) (w : World) :
    Calls Tryz.prog 66 #[.agg #[.string s, .string f], .agg #[.string s, .string f]] w fun e w' => e = .returned (.bool true) ∧ Below w.heap.size w w' := by
  go_enter Tryz.func66, Tryz.ntmps66
  go_wp2
  go_ret
  exact ⟨rfl, ((Below.refl _ _).alloc (Nat.le_refl _) _).alloc (by simp) _⟩
set_option maxHeartbeats 1000000 in
theorem eqAffix_same (f st ad wh : ByteArray) (fr : Bool) (w : World) :
    Calls Tryz.prog 65 #[.agg #[.string f, .bool fr, .string st, .string ad, .string wh], .agg #[.string f, .bool fr, .string st, .string ad, .string wh]] w fun e w' => e = .returned (.bool true) ∧ Below w.heap.size w w' := by
  go_enter Tryz.func65, Tryz.ntmps65
  go_wp2
  go_ret
  exact ⟨rfl, ((Below.refl _ _).alloc (Nat.le_refl _) _).alloc (by simp) _⟩
set_option maxHeartbeats 1000000 in
theorem eqEntryS_same (w : World) (v u : Value) (es : List (ByteArray × ByteArray)) (h : EntsAt w v es) (h' : EntsAt w u es) :
    Calls Tryz.prog 39 #[v, u] w fun e w' => e = .returned (.bool true) ∧ Below w.heap.size w w' := by
  obtain ⟨a, cap, rfl, hc, hm⟩ := h.form
  obtain ⟨a', cap', rfl, hc', hm'⟩ := h'.form
  have HS : Hid (EntsAt w (.slice a es.length cap) es) := h
  have HS' : Hid (EntsAt w (.slice a' es.length cap') es) := h'
  clear h h'
  unfold maxLen at hm hm'
  go_enter Tryz.func39, Tryz.ntmps39
  go_wp2
  go_loopw [5] (fun i wr => ∃ (k : Nat), k ≤ es.length ∧ i = .int .i64 k ∧ Below w.heap.size w wr) (fun i _ => es.length - (intOf i).toNat)
  case atStart => exact ⟨0, Nat.zero_le _, rfl, Below.refl _ _⟩
  case round =>
    obtain ⟨k, hk, rfl, hb⟩ := hrel
    have HB : Hid (Below w.heap.size w wr) := hb
    clear hb
    by_cases hlt : k < es.length
    · obtain ⟨b, off, cap1, x, hv, hbl, hx, _, c1, c2⟩ := (HS.out.below HB.out).at hlt
      cases hv
      obtain ⟨b', off', cap2, x', hv', hbl', hx', _, c1', c2'⟩ := (HS'.out.below HB.out).at hlt
      cases hv'
      rw [hx] at hx'
      cases hx'
      clear hx
      go_wp2_with fail
      go_region_with (go_at_call 66; refine (eqEntry_same _ _ _).mono ?_; rintro e w' ⟨rfl, hb'⟩; have HB' : Hid (Below w.heap.size w w') := HB.out.drew.trans (hb'.mono HB.out.size); clear hb')
      all_goals
        go_wp2
        go_roundw
        case rel => exact ⟨k + 1, by omega, by go_num, HB'.out⟩
        case measure => simp [intOf]; omega
    · go_wp2
      go_ret
      exact ⟨rfl, HB.out⟩
set_option maxHeartbeats 2000000 in
theorem eqAffixS_same (w : World) (v u : Value) (xs : List Aff) (h : AffsAt w v xs) (h' : AffsAt w u xs) :
    Calls Tryz.prog 38 #[v, u] w fun e w' => e = .returned (.bool true) ∧ Below w.heap.size w w' := by
  obtain ⟨a, cap, rfl, hc, hm⟩ := h.form
  obtain ⟨a', cap', rfl, hc', hm'⟩ := h'.form
  have HS : Hid (AffsAt w (.slice a xs.length cap) xs) := h
  have HS' : Hid (AffsAt w (.slice a' xs.length cap') xs) := h'
  clear h h'
  unfold maxLen at hm hm'
  go_enter Tryz.func38, Tryz.ntmps38
  go_wp2
  go_loopw [5] (fun i wr => ∃ (k : Nat), k ≤ xs.length ∧ i = .int .i64 k ∧ Below w.heap.size w wr) (fun i _ => xs.length - (intOf i).toNat)
  case atStart => exact ⟨0, Nat.zero_le _, rfl, Below.refl _ _⟩
  case round =>
    obtain ⟨k, hk, rfl, hb⟩ := hrel
    have HB : Hid (Below w.heap.size w wr) := hb
    clear hb
    by_cases hlt : k < xs.length
    · obtain ⟨b, off, cap1, x, hv, hbl, hx, _, c0, c1, c2, c3, c4⟩ := (HS.out.below HB.out).at hlt
      cases hv
      obtain ⟨b', off', cap2, x', hv', hbl', hx', _, d0, d1, d2, d3, d4⟩ := (HS'.out.below HB.out).at hlt
      cases hv'
      rw [hx] at hx'
      cases hx'
      clear hx
      go_wp2_with fail
      go_region_with (go_at_call 65; refine (eqAffix_same _ _ _ _ _ _).mono ?_; rintro e w' ⟨rfl, hb'⟩; have HB' : Hid (Below w.heap.size w w') := HB.out.drew.trans (hb'.mono HB.out.size); clear hb')
      all_goals
        go_wp2
        go_roundw
        case rel => exact ⟨k + 1, by omega, by go_num, HB'.out⟩
        case measure => simp [intOf]; omega
    · go_wp2
      go_ret
      exact ⟨rfl, HB.out⟩
set_option maxHeartbeats 1000000 in
theorem eqBook_same (w : World) (va ve ua ue : Value) (xs : List Aff) (es : List (ByteArray × ByteArray)) (ha : AffsAt w va xs) (he : EntsAt w ve es) (ha' : AffsAt w ua xs) (he' : EntsAt w ue es) :
    Calls Tryz.prog 13 #[.agg #[va, ve], .agg #[ua, ue]] w fun e w' => e = .returned (.bool true) ∧ Below w.heap.size w w' := by
  obtain ⟨a1, cap1, rfl, _, _⟩ := ha.form
  obtain ⟨a2, cap2, rfl, _, _⟩ := he.form
  obtain ⟨a3, cap3, rfl, _, _⟩ := ha'.form
  obtain ⟨a4, cap4, rfl, _, _⟩ := he'.form
  have H1 : Hid (AffsAt w (.slice a1 xs.length cap1) xs) := ha
  have H2 : Hid (EntsAt w (.slice a2 es.length cap2) es) := he
  have H3 : Hid (AffsAt w (.slice a3 xs.length cap3) xs) := ha'
  have H4 : Hid (EntsAt w (.slice a4 es.length cap4) es) := he'
  clear ha he ha' he'
  go_enter Tryz.func13, Tryz.ntmps13
  go_wp2_with fail
  refine (eqAffixS_same _ _ _ xs (H1.out.below ?b1) (H3.out.below ?b1)).mono ?_
  case b1 => exact ((Below.refl _ _).alloc (Nat.le_refl _) _).alloc (by simp) _
  rintro e w1 ⟨rfl, hb1⟩
  have HB1 : Hid (Below w.heap.size w w1) := Below.trans (((Below.refl _ _).alloc (Nat.le_refl _) _).alloc (by simp) _) (hb1.mono (by simp <;> omega))
  obtain ⟨hcl, hfz⟩ := bcell7 hb1
  have hz := hb1.size
  simp at hz
  clear hb1
  go_wp2_with fail
  refine (eqEntryS_same _ _ _ es (H2.out.below HB1.out) (H4.out.below HB1.out)).mono ?_
  rintro e w2 ⟨rfl, hb2⟩
  have HB2 : Hid (Below w.heap.size w w2) := HB1.out.trans (hb2.mono HB1.out.size)
  clear hb2 hcl hfz
  go_wp2
  go_ret
  exact ⟨rfl, HB2.out⟩
end Go.Proofs.YthedglgljehmgaaGreatDoor
/-
  impl.affixesOk.
-/
namespace Go.Proofs.YthedglgljehmgaaGreatDoor
open Go.RowKit
set_option linter.unusedVariables false
/-- An operation of a region that draws is taken first; the slot that it writes is told. -/
theorem wpAny_takeD {P : Program} {md : Region.Mode} {ops : Array Oper} {Q : Exit → Act → World → Prop} {i d : Nat} {oi : Oper} {v : Value} {fuel : Nat} {listed : Array Bool} {a : Act} {w : World} (hi : ops[i]? = some oi)
    (hs : Region.noSelect ops = true) (hf : Region.free md ops listed i = true) (hr : (Region.ready md ops listed).contains i = true)
    (hQ : ∀ c a w, Q (.panic c) (a.put oi.dst v) w → Q (.panic c) a w) (hy : Yields P ops oi v a) (hd : oi.dst = some d)
    (h : wpAny P md ops Q fuel (listed.setIfInBounds i true) (a.put (some d) v) w) : wpAny P md ops Q (fuel + 1) listed a w :=
  wpAny_take hi hs hf hr hQ hy (by rw [hd]; exact h)
/-- The affix at a place is ok, and none ahead is the same. -/
def affAt (xs : List Aff) (i : Nat) : Bool := match xs[i]? with | none => true | some x => affOk x && !affIn (xs.take i) x
def affsT (xs : List Aff) : Bool := decide (xs.length ≤ 8) && (List.range xs.length).all (affAt xs)
theorem affsT_long {xs : List Aff} (h : ¬ xs.length ≤ 8) : affsT xs = false := by simp [affsT, h]
theorem affsT_bad {xs : List Aff} (i : Nat) (hi : i < xs.length) (h : affAt xs i = false) : affsT xs = false := by
  have : (List.range xs.length).all (affAt xs) = false := by
    simp only [List.all_eq_false, List.mem_range]
    exact ⟨i, hi, by rw [h]; decide⟩
  simp [affsT, this]
theorem affsT_good {xs : List Aff} (h : ∀ i, i < xs.length → affAt xs i = true) : affsT xs = decide (xs.length ≤ 8) := by
  have : (List.range xs.length).all (affAt xs) = true := by
    simp only [List.all_eq_true, List.mem_range]
    exact h
  simp [affsT, this]
theorem affAt_at {xs : List Aff} {i : Nat} {x : Aff} (hx : xs[i]? = some x) : affAt xs i = (affOk x && !affIn (xs.take i) x) := by simp [affAt, hx]
set_option maxRecDepth 100000 in
set_option maxHeartbeats 2000000 in
theorem affixesOk_any (w : World) (v : Value) (xs : List Aff) (h : AffsAt w v xs) :
    Calls Tryz.prog 47 #[v] w fun e w' => e = .returned (.bool (affsT xs)) ∧ Below w.heap.size w w' := by
  obtain ⟨a, cap, rfl, hc, hm⟩ := h.form
  have HS : Hid (AffsAt w (.slice a xs.length cap) xs) := h
  clear h
  unfold maxLen at hm
  by_cases h8 : xs.length ≤ 8
  · have h8' : ¬ ((xs.length : Int) > 8) := by omega
    go_enter Tryz.func47, Tryz.ntmps47
    go_wp2
    go_loopw [10] (fun i wr => ∃ (k : Nat), k ≤ xs.length ∧ i = .int .i64 k ∧ (∀ j, j < k → affAt xs j = true) ∧ Below w.heap.size w wr) (fun i _ => xs.length - (intOf i).toNat)
    case atStart => exact ⟨0, Nat.zero_le _, rfl, fun j hj => absurd hj (by omega), Below.refl _ _⟩
    case round =>
      obtain ⟨k, hk, rfl, hall, hb⟩ := hrel
      have HA : Hid (∀ j, j < k → affAt xs j = true) := hall
      have HB : Hid (Below w.heap.size w wr) := hb
      clear hall hb
      by_cases hlt : k < xs.length
      · obtain ⟨b, off, cap', x, hv, hbl, hx, hxf, e0, e1, e2, e3, e4⟩ := (HS.out.below HB.out).at hlt
        cases hv
        have HX := affAt_at hx
        obtain ⟨f, fr, st, ad, wh⟩ := x
        simp only at e0 e1 e2 e3 e4
        have HF : Hid (Aff.fits ⟨f, fr, st, ad, wh⟩) := hxf
        have HX' : Hid (affAt xs k = (affOk ⟨f, fr, st, ad, wh⟩ && !affIn (xs.take k) ⟨f, fr, st, ad, wh⟩)) := HX
        have HST : Hid (∀ W : World, Below wr.heap.size wr W → AffsAt W (.slice (some ⟨b, off, none⟩) k cap) (xs.take k)) := fun W hW => ((HS.out.below HB.out).below hW).take hk
        have ek1 : (k : Int) ≤ (xs.length : Int) := by omega
        have ek2 : (xs.length : Int) ≤ (cap : Int) := by omega
        have ek3 : (k : Int) ≤ (cap : Int) := by omega
        have ek4 : k ≤ cap := by omega
        clear hx hxf HX
        cases hok : affOk ⟨f, fr, st, ad, wh⟩ with
        | false =>
          have HM : Hid (affsT xs = false) := affsT_bad k hlt (by rw [HX'.out, hok]; rfl)
          go_wp2_with fail
          first
            | (go_region_with (go_at_call 70; refine (implAffixOk_any ⟨f, fr, st, ad, wh⟩ _ HF.out).mono ?_; rintro e w1 ⟨rfl, hb1⟩; rw [hok]))
            | fail
          all_goals
            go_wp2
            go_ret
            rw [HM.out]
            exact ⟨rfl, (HB.out.alloc HB.out.size _).drew.trans (hb1.mono (by have := HB.out.size; simp; omega))⟩
        | true =>
          cases hin : affIn (xs.take k) ⟨f, fr, st, ad, wh⟩ with
          | true =>
            have HM : Hid (affsT xs = false) := affsT_bad k hlt (by rw [HX'.out, hok, hin]; rfl)
            go_wp2_with fail
            go_region_held3 (fun w' => w'.cell? ⟨wr.heap.size, 0, none⟩ = some (.string f) ∧ w'.cell? ⟨wr.heap.size, 1, none⟩ = some (.bool fr) ∧ w'.cell? ⟨wr.heap.size, 2, none⟩ = some (.string st) ∧ w'.cell? ⟨wr.heap.size, 3, none⟩ = some (.string ad) ∧ w'.cell? ⟨wr.heap.size, 4, none⟩ = some (.string wh)) (go_keep)
              (first | (go_at_call 70; refine (implAffixOk_any ⟨f, fr, st, ad, wh⟩ _ HF.out).mono ?_; rintro e w1 ⟨rfl, hb1⟩; rw [hok]; have hc1 := bcell hb1; have hz1 : wr.heap.size < w1.heap.size := (by have := hb1.size; simp at this; omega)) | (go_at_call 71; refine (sContains_any _ _ (xs.take k) ⟨f, fr, st, ad, wh⟩ (HST.out _ (((Below.refl _ _).alloc (Nat.le_refl _) _).drew.trans (hb1.mono (by simp))))).mono ?_; rintro e w2 ⟨rfl, hb2⟩; rw [hin]; have hc2 := bcell hb2))
            go_wp2
            go_ret
            rw [HM.out]
            exact ⟨rfl, ((HB.out.alloc HB.out.size _).drew.trans (hb1.mono (by have := HB.out.size; simp; omega))).trans (hb2.mono (by have := HB.out.size; omega))⟩
          | false =>
            have HM : Hid (affAt xs k = true) := by show affAt xs k = true; rw [HX'.out, hok, hin]; rfl
            go_wp2_with fail
            go_region_held3 (fun w' => w'.cell? ⟨wr.heap.size, 0, none⟩ = some (.string f) ∧ w'.cell? ⟨wr.heap.size, 1, none⟩ = some (.bool fr) ∧ w'.cell? ⟨wr.heap.size, 2, none⟩ = some (.string st) ∧ w'.cell? ⟨wr.heap.size, 3, none⟩ = some (.string ad) ∧ w'.cell? ⟨wr.heap.size, 4, none⟩ = some (.string wh)) (go_keep)
              (first | (go_at_call 70; refine (implAffixOk_any ⟨f, fr, st, ad, wh⟩ _ HF.out).mono ?_; rintro e w1 ⟨rfl, hb1⟩; rw [hok]; have hc1 := bcell hb1; have hz1 : wr.heap.size < w1.heap.size := (by have := hb1.size; simp at this; omega)) | (go_at_call 71; refine (sContains_any _ _ (xs.take k) ⟨f, fr, st, ad, wh⟩ (HST.out _ (((Below.refl _ _).alloc (Nat.le_refl _) _).drew.trans (hb1.mono (by simp))))).mono ?_; rintro e w2 ⟨rfl, hb2⟩; rw [hin]; have hc2 := bcell hb2))
            go_wp2
            go_roundw
            case rel =>
              refine ⟨k + 1, by omega, by go_num, fun j hj => ?_, ((HB.out.alloc HB.out.size _).drew.trans (hb1.mono (by have := HB.out.size; simp; omega))).trans (hb2.mono (by have := HB.out.size; omega))⟩
              by_cases e : j = k
              · rw [e]; exact HM.out
              · exact HA.out j (by omega)
            case measure => simp [intOf]; omega
      · have HM : Hid (affsT xs = true) := by
          show affsT xs = true
          rw [affsT_good (fun i hi => HA.out i (by omega))]
          simpa using h8
        go_wp2
        go_ret
        rw [HM.out]
        exact ⟨rfl, HB.out⟩
  · have HM : Hid (affsT xs = false) := affsT_long h8
    have h8' : (xs.length : Int) > 8 := by omega
    go_enter Tryz.func47, Tryz.ntmps47
    go_wp2
    go_ret
    rw [HM.out]
    exact ⟨rfl, Below.refl _ _⟩
end Go.Proofs.YthedglgljehmgaaGreatDoor
/-
  impl.entriesOk, impl.BookOk.
-/
namespace Go.Proofs.YthedglgljehmgaaGreatDoor
open Go.RowKit
set_option linter.unusedVariables false
/-- The entry at a place is ok, and behind the one ahead. -/
def entAt (es : List (ByteArray × ByteArray)) (i : Nat) : Bool :=
  match es[i]? with
  | none => true
  | some e => entT e.1 e.2 && (match i with | 0 => true | j + 1 => match es[j]? with | none => true | some p => Op.bytesLess p.1.toList e.1.toList)
def entsT (es : List (ByteArray × ByteArray)) : Bool := decide (es.length ≤ 24) && (List.range es.length).all (entAt es)
theorem entsT_long {es : List (ByteArray × ByteArray)} (h : ¬ es.length ≤ 24) : entsT es = false := by simp [entsT, h]
theorem entsT_bad {es : List (ByteArray × ByteArray)} (i : Nat) (hi : i < es.length) (h : entAt es i = false) : entsT es = false := by
  have : (List.range es.length).all (entAt es) = false := by
    simp only [List.all_eq_false, List.mem_range]
    exact ⟨i, hi, by rw [h]; decide⟩
  simp [entsT, this]
theorem entsT_good {es : List (ByteArray × ByteArray)} (h : ∀ i, i < es.length → entAt es i = true) : entsT es = decide (es.length ≤ 24) := by
  have : (List.range es.length).all (entAt es) = true := by
    simp only [List.all_eq_true, List.mem_range]
    exact h
  simp [entsT, this]
theorem entAt_no {es : List (ByteArray × ByteArray)} {i : Nat} {e : ByteArray × ByteArray} (he : es[i]? = some e) (h : entT e.1 e.2 = false) : entAt es i = false := by simp [entAt, he, h]
theorem entAt_zero {es : List (ByteArray × ByteArray)} {e : ByteArray × ByteArray} (he : es[0]? = some e) : entAt es 0 = entT e.1 e.2 := by simp [entAt, he]
theorem entAt_succ {es : List (ByteArray × ByteArray)} {j : Nat} {p e : ByteArray × ByteArray} (hp : es[j]? = some p) (he : es[j + 1]? = some e) : entAt es (j + 1) = (entT e.1 e.2 && Op.bytesLess p.1.toList e.1.toList) := by simp [entAt, hp, he]
/-- A book is ok. -/
def bookT (xs : List Aff) (es : List (ByteArray × ByteArray)) : Bool := affsT xs && entsT es
set_option maxRecDepth 100000 in
set_option maxHeartbeats 2000000 in
theorem entriesOk_any (w : World) (v : Value) (es : List (ByteArray × ByteArray)) (h : EntsAt w v es) :
    Calls Tryz.prog 48 #[v] w fun e w' => e = .returned (.bool (entsT es)) ∧ Below w.heap.size w w' := by
  obtain ⟨a, cap, rfl, hc, hm⟩ := h.form
  have HS : Hid (EntsAt w (.slice a es.length cap) es) := h
  clear h
  unfold maxLen at hm
  by_cases h8 : es.length ≤ 24
  · have h8' : ¬ ((es.length : Int) > 24) := by omega
    go_enter Tryz.func48, Tryz.ntmps48
    go_wp2
    go_loopw [10] (fun i wr => ∃ (k : Nat), k ≤ es.length ∧ i = .int .i64 k ∧ (∀ j, j < k → entAt es j = true) ∧ Below w.heap.size w wr) (fun i _ => es.length - (intOf i).toNat)
    case atStart => exact ⟨0, Nat.zero_le _, rfl, fun j hj => absurd hj (by omega), Below.refl _ _⟩
    case round =>
      obtain ⟨k, hk, rfl, hall, hb⟩ := hrel
      have HA : Hid (∀ j, j < k → entAt es j = true) := hall
      have HB : Hid (Below w.heap.size w wr) := hb
      clear hall hb
      by_cases hlt : k < es.length
      · obtain ⟨b, off, cap', x, hv, hbl, hx, ⟨hx1, hx2⟩, e0, e1⟩ := (HS.out.below HB.out).at hlt
        cases hv
        have HX : Hid (es[k]? = some x) := hx
        obtain ⟨s, f⟩ := x
        simp only at e0 e1 hx1 hx2
        have HF1 : Hid (s.size ≤ maxLen) := hx1
        have HF2 : Hid (f.size ≤ maxLen) := hx2
        have HN : Hid (entAt es k = true → ∀ j, j < k + 1 → entAt es j = true) := by
          intro hg j hj
          by_cases e : j = k
          · rw [e]; exact hg
          · exact HA.out j (by omega)
        clear hx hx1 hx2
        cases hok : entT s f with
        | false =>
          have HM : Hid (entsT es = false) := entsT_bad k hlt (entAt_no HX.out hok)
          go_wp2_with fail
          refine wp_region_any (by kernel_rfl) ?_
          change wpAny _ _ _ _ _ _ _ (World.drew _)
          refine wpAny_ready (rs := [0]) (by kernel_rfl) (by simp) ?_
          refine AllReady.cons rfl (fun K hK => ?_) AllReady.nil
          go_simp
          refine hK _ _ ?_
          clear hK K
          refine wpAny_ready (rs := [1]) (by kernel_rfl) (by simp) ?_
          refine AllReady.cons rfl (fun K hK => ?_) AllReady.nil
          go_simp
          refine (implEntryOk_any s f _ HF1.out HF2.out).mono ?_
          rintro e w1 ⟨rfl, hb1⟩
          rw [hok]
          refine hK _ _ ?_
          clear hK K
          refine wpAny_takeD (i := 2) (d := 17) (v := .bool true) rfl (by kernel_rfl) (by kernel_rfl) (by kernel_rfl) (fun _ _ _ h => h) (Or.inl ⟨by rfl, by intro w; go_simp⟩) rfl ?_
          simp only [Act.put, List.setIfInBounds_toArray, List.set_cons_zero, List.set_cons_succ]
          refine wpAny_takeD (i := 3) (d := 18) (v := .bool true) rfl (by kernel_rfl) (by kernel_rfl) (by kernel_rfl) (fun _ _ _ h => h) (Or.inl ⟨by rfl, by intro w; go_simp⟩) rfl ?_
          simp only [Act.put, List.setIfInBounds_toArray, List.set_cons_zero, List.set_cons_succ]
          refine wpAny_takeD (i := 4) (d := 19) (v := undef) rfl (by kernel_rfl) (by kernel_rfl) (by kernel_rfl) (fun _ _ _ h => h) (Or.inr ⟨by rfl, rfl⟩) rfl ?_
          simp only [Act.put, List.setIfInBounds_toArray, List.set_cons_zero, List.set_cons_succ]
          refine wpAny_takeD (i := 5) (d := 20) (v := undef) rfl (by kernel_rfl) (by kernel_rfl) (by kernel_rfl) (fun _ _ _ h => h) (Or.inr ⟨by rfl, rfl⟩) rfl ?_
          simp only [Act.put, List.setIfInBounds_toArray, List.set_cons_zero, List.set_cons_succ]
          refine wpAny_takeD (i := 6) (d := 21) (v := undef) rfl (by kernel_rfl) (by kernel_rfl) (by kernel_rfl) (fun _ _ _ h => h) (Or.inr ⟨by rfl, rfl⟩) rfl ?_
          simp only [Act.put, List.setIfInBounds_toArray, List.set_cons_zero, List.set_cons_succ]
          refine wpAny_takeD (i := 7) (d := 22) (v := undef) rfl (by kernel_rfl) (by kernel_rfl) (by kernel_rfl) (fun _ _ _ h => h) (Or.inr ⟨by rfl, rfl⟩) rfl ?_
          simp only [Act.put, List.setIfInBounds_toArray, List.set_cons_zero, List.set_cons_succ]
          refine wpAny_takeD (i := 8) (d := 23) (v := undef) rfl (by kernel_rfl) (by kernel_rfl) (by kernel_rfl) (fun _ _ _ h => h) (Or.inr ⟨by rfl, rfl⟩) rfl ?_
          simp only [Act.put, List.setIfInBounds_toArray, List.set_cons_zero, List.set_cons_succ]
          refine wpAny_takeD (i := 9) (d := 24) (v := undef) rfl (by kernel_rfl) (by kernel_rfl) (by kernel_rfl) (fun _ _ _ h => h) (Or.inr ⟨by rfl, rfl⟩) rfl ?_
          simp only [Act.put, List.setIfInBounds_toArray, List.set_cons_zero, List.set_cons_succ]
          refine wpAny_takeD (i := 10) (d := 25) (v := undef) rfl (by kernel_rfl) (by kernel_rfl) (by kernel_rfl) (fun _ _ _ h => h) (Or.inr ⟨by rfl, rfl⟩) rfl ?_
          simp only [Act.put, List.setIfInBounds_toArray, List.set_cons_zero, List.set_cons_succ]
          refine wpAny_takeD (i := 11) (d := 26) (v := undef) rfl (by kernel_rfl) (by kernel_rfl) (by kernel_rfl) (fun _ _ _ h => h) (Or.inr ⟨by rfl, rfl⟩) rfl ?_
          simp only [Act.put, List.setIfInBounds_toArray, List.set_cons_zero, List.set_cons_succ]
          refine wpAny_takeD (i := 12) (d := 27) (v := undef) rfl (by kernel_rfl) (by kernel_rfl) (by kernel_rfl) (fun _ _ _ h => h) (Or.inr ⟨by rfl, rfl⟩) rfl ?_
          simp only [Act.put, List.setIfInBounds_toArray, List.set_cons_zero, List.set_cons_succ]
          refine wpAny_takeD (i := 13) (d := 28) (v := undef) rfl (by kernel_rfl) (by kernel_rfl) (by kernel_rfl) (fun _ _ _ h => h) (Or.inr ⟨by rfl, rfl⟩) rfl ?_
          simp only [Act.put, List.setIfInBounds_toArray, List.set_cons_zero, List.set_cons_succ]
          refine wpAny_takeD (i := 14) (d := 29) (v := undef) rfl (by kernel_rfl) (by kernel_rfl) (by kernel_rfl) (fun _ _ _ h => h) (Or.inr ⟨by rfl, rfl⟩) rfl ?_
          simp only [Act.put, List.setIfInBounds_toArray, List.set_cons_zero, List.set_cons_succ]
          refine wpAny_takeD (i := 15) (d := 30) (v := undef) rfl (by kernel_rfl) (by kernel_rfl) (by kernel_rfl) (fun _ _ _ h => h) (Or.inr ⟨by rfl, rfl⟩) rfl ?_
          simp only [Act.put, List.setIfInBounds_toArray, List.set_cons_zero, List.set_cons_succ]
          refine wpAny_takeD (i := 16) (d := 31) (v := undef) rfl (by kernel_rfl) (by kernel_rfl) (by kernel_rfl) (fun _ _ _ h => h) (Or.inr ⟨by rfl, rfl⟩) rfl ?_
          simp only [Act.put, List.setIfInBounds_toArray, List.set_cons_zero, List.set_cons_succ]
          refine wpAny_takeD (i := 17) (d := 32) (v := .bool true) rfl (by kernel_rfl) (by kernel_rfl) (by kernel_rfl) (fun _ _ _ h => h) (Or.inl ⟨by rfl, by intro w; go_simp⟩) rfl ?_
          simp only [Act.put, List.setIfInBounds_toArray, List.set_cons_zero, List.set_cons_succ]
          refine wpAny_done (by kernel_rfl) ?_ _
          all_goals
            go_wp2
            go_ret
            rw [HM.out]
            exact ⟨rfl, (HB.out.alloc HB.out.size _).drew.trans (hb1.mono (by have := HB.out.size; simp; omega))⟩
        | true =>
          by_cases hk0 : k = 0
          · have HY : Hid (entAt es 0 = true) := by show entAt es 0 = true; rw [entAt_zero (by rw [← hk0]; exact HX.out)]; exact hok
            subst hk0
            simp only [Nat.zero_mul, Nat.add_zero] at e0 e1
            go_wp2_with fail
            refine wp_region_any (by kernel_rfl) ?_
            change wpAny _ _ _ _ _ _ _ (World.drew _)
            refine wpAny_ready (rs := [0]) (by kernel_rfl) (by simp) ?_
            refine AllReady.cons rfl (fun K hK => ?_) AllReady.nil
            go_simp
            refine hK _ _ ?_
            clear hK K
            refine wpAny_ready (rs := [1]) (by kernel_rfl) (by simp) ?_
            refine AllReady.cons rfl (fun K hK => ?_) AllReady.nil
            go_simp
            refine (implEntryOk_any s f _ HF1.out HF2.out).mono ?_
            rintro e w1 ⟨rfl, hb1⟩
            rw [hok]
            refine hK _ _ ?_
            clear hK K
            refine wpAny_takeD (i := 2) (d := 17) (v := .bool false) rfl (by kernel_rfl) (by kernel_rfl) (by kernel_rfl) (fun _ _ _ h => h) (Or.inl ⟨by rfl, by intro w; go_simp⟩) rfl ?_
            simp only [Act.put, List.setIfInBounds_toArray, List.set_cons_zero, List.set_cons_succ]
            refine wpAny_takeD (i := 3) (d := 18) (v := .bool false) rfl (by kernel_rfl) (by kernel_rfl) (by kernel_rfl) (fun _ _ _ h => h) (Or.inl ⟨by rfl, by intro w; go_simp⟩) rfl ?_
            simp only [Act.put, List.setIfInBounds_toArray, List.set_cons_zero, List.set_cons_succ]
            refine wpAny_takeD (i := 4) (d := 19) (v := .int .i64 0) rfl (by kernel_rfl) (by kernel_rfl) (by kernel_rfl) (fun _ _ _ h => h) (Or.inl ⟨by rfl, by intro w; go_simp⟩) rfl ?_
            simp only [Act.put, List.setIfInBounds_toArray, List.set_cons_zero, List.set_cons_succ]
            refine wpAny_takeD (i := 5) (d := 20) (v := .bool false) rfl (by kernel_rfl) (by kernel_rfl) (by kernel_rfl) (fun _ _ _ h => h) (Or.inl ⟨by rfl, by intro w; go_simp⟩) rfl ?_
            simp only [Act.put, List.setIfInBounds_toArray, List.set_cons_zero, List.set_cons_succ]
            refine wpAny_takeD (i := 6) (d := 21) (v := .bool false) rfl (by kernel_rfl) (by kernel_rfl) (by kernel_rfl) (fun _ _ _ h => h) (Or.inl ⟨by rfl, by intro w; go_simp⟩) rfl ?_
            simp only [Act.put, List.setIfInBounds_toArray, List.set_cons_zero, List.set_cons_succ]
            refine wpAny_takeD (i := 7) (d := 22) (v := undef) rfl (by kernel_rfl) (by kernel_rfl) (by kernel_rfl) (fun _ _ _ h => h) (Or.inr ⟨by rfl, rfl⟩) rfl ?_
            simp only [Act.put, List.setIfInBounds_toArray, List.set_cons_zero, List.set_cons_succ]
            refine wpAny_takeD (i := 8) (d := 23) (v := undef) rfl (by kernel_rfl) (by kernel_rfl) (by kernel_rfl) (fun _ _ _ h => h) (Or.inr ⟨by rfl, rfl⟩) rfl ?_
            simp only [Act.put, List.setIfInBounds_toArray, List.set_cons_zero, List.set_cons_succ]
            refine wpAny_takeD (i := 9) (d := 24) (v := undef) rfl (by kernel_rfl) (by kernel_rfl) (by kernel_rfl) (fun _ _ _ h => h) (Or.inr ⟨by rfl, rfl⟩) rfl ?_
            simp only [Act.put, List.setIfInBounds_toArray, List.set_cons_zero, List.set_cons_succ]
            refine wpAny_takeD (i := 10) (d := 25) (v := undef) rfl (by kernel_rfl) (by kernel_rfl) (by kernel_rfl) (fun _ _ _ h => h) (Or.inr ⟨by rfl, rfl⟩) rfl ?_
            simp only [Act.put, List.setIfInBounds_toArray, List.set_cons_zero, List.set_cons_succ]
            refine wpAny_takeD (i := 11) (d := 26) (v := undef) rfl (by kernel_rfl) (by kernel_rfl) (by kernel_rfl) (fun _ _ _ h => h) (Or.inr ⟨by rfl, rfl⟩) rfl ?_
            simp only [Act.put, List.setIfInBounds_toArray, List.set_cons_zero, List.set_cons_succ]
            refine wpAny_takeD (i := 12) (d := 27) (v := undef) rfl (by kernel_rfl) (by kernel_rfl) (by kernel_rfl) (fun _ _ _ h => h) (Or.inr ⟨by rfl, rfl⟩) rfl ?_
            simp only [Act.put, List.setIfInBounds_toArray, List.set_cons_zero, List.set_cons_succ]
            refine wpAny_takeD (i := 13) (d := 28) (v := undef) rfl (by kernel_rfl) (by kernel_rfl) (by kernel_rfl) (fun _ _ _ h => h) (Or.inr ⟨by rfl, rfl⟩) rfl ?_
            simp only [Act.put, List.setIfInBounds_toArray, List.set_cons_zero, List.set_cons_succ]
            refine wpAny_takeD (i := 14) (d := 29) (v := undef) rfl (by kernel_rfl) (by kernel_rfl) (by kernel_rfl) (fun _ _ _ h => h) (Or.inr ⟨by rfl, rfl⟩) rfl ?_
            simp only [Act.put, List.setIfInBounds_toArray, List.set_cons_zero, List.set_cons_succ]
            refine wpAny_takeD (i := 15) (d := 30) (v := undef) rfl (by kernel_rfl) (by kernel_rfl) (by kernel_rfl) (fun _ _ _ h => h) (Or.inr ⟨by rfl, rfl⟩) rfl ?_
            simp only [Act.put, List.setIfInBounds_toArray, List.set_cons_zero, List.set_cons_succ]
            refine wpAny_takeD (i := 16) (d := 31) (v := .bool false) rfl (by kernel_rfl) (by kernel_rfl) (by kernel_rfl) (fun _ _ _ h => h) (Or.inl ⟨by rfl, by intro w; go_simp⟩) rfl ?_
            simp only [Act.put, List.setIfInBounds_toArray, List.set_cons_zero, List.set_cons_succ]
            refine wpAny_takeD (i := 17) (d := 32) (v := .bool false) rfl (by kernel_rfl) (by kernel_rfl) (by kernel_rfl) (fun _ _ _ h => h) (Or.inl ⟨by rfl, by intro w; go_simp⟩) rfl ?_
            simp only [Act.put, List.setIfInBounds_toArray, List.set_cons_zero, List.set_cons_succ]
            refine wpAny_done (by kernel_rfl) ?_ _
            all_goals
              go_wp2
              go_roundw
              case rel => exact ⟨1, by omega, by go_num, HN.out HY.out, (HB.out.alloc HB.out.size _).drew.trans (hb1.mono (by have := HB.out.size; simp; omega))⟩
              case measure => simp [intOf]; omega
          · obtain ⟨j, hj⟩ : ∃ j : Nat, k = j + 1 := ⟨k - 1, by omega⟩
            have hlt0 : j < es.length := by omega
            have hi0 : (j : Int) < (es.length : Int) := by omega
            have hk1 : (0 : Int) < (k : Int) := by omega
            have hk2 : 0 < k := by omega
            have r1 : IntKind.i64.wrap ((k : Int) - 1) = (j : Int) := by rw [IntWalk.i64_in _ (by omega)]; omega
            obtain ⟨b1, off1, cap1, q, hv, _, hq, _, e3, _⟩ := (HS.out.below HB.out).at hlt0
            cases hv
            have HP : Hid (es[j]? = some q) := hq
            have HX' : Hid (es[j + 1]? = some (s, f)) := show es[j + 1]? = some (s, f) by rw [← hj]; exact HX.out
            obtain ⟨q, q'⟩ := q
            simp only at e3
            have HJ : Hid (k = j + 1) := hj
            clear hq hj hk0
            cases hcmp : Op.bytesLess q.toList s.toList with
            | false =>
              have HM : Hid (entsT es = false) := entsT_bad k hlt (by rw [HJ.out, entAt_succ HP.out HX'.out, hok, hcmp]; rfl)
              go_wp2_with fail
              refine wp_region_any (by kernel_rfl) ?_
              change wpAny _ _ _ _ _ _ _ (World.drew _)
              refine wpAny_ready (rs := [0]) (by kernel_rfl) (by simp) ?_
              refine AllReady.cons rfl (fun K hK => ?_) AllReady.nil
              go_simp
              refine hK _ _ ?_
              clear hK K
              refine wpAny_ready (rs := [1]) (by kernel_rfl) (by simp) ?_
              refine AllReady.cons rfl (fun K hK => ?_) AllReady.nil
              go_simp
              refine (implEntryOk_any s f _ HF1.out HF2.out).mono ?_
              rintro e w1 ⟨rfl, hb1⟩
              rw [hok]
              have s0 := (hb1.cell (p := ⟨wr.heap.size, 0, none⟩) (by simp)).trans (show _ = some (Value.string s) by simp [go_sem])
              have s3 := (hb1.cell (p := ⟨b, off + j * 2, none⟩) (by simp; omega)).trans (show _ = some (Value.string q) by simp [go_sem, e3, hbl])
              have hz1 : wr.heap.size < w1.heap.size := by have := hb1.size; simp at this; omega
              refine hK _ _ ?_
              clear hK K
              refine wpAny_takeD (i := 2) (d := 17) (v := .bool false) rfl (by kernel_rfl) (by kernel_rfl) (by kernel_rfl) (fun _ _ _ h => h) (Or.inl ⟨by rfl, by intro w; go_simp⟩) rfl ?_
              simp only [Act.put, List.setIfInBounds_toArray, List.set_cons_zero, List.set_cons_succ]
              refine wpAny_takeD (i := 3) (d := 18) (v := .bool false) rfl (by kernel_rfl) (by kernel_rfl) (by kernel_rfl) (fun _ _ _ h => h) (Or.inl ⟨by rfl, by intro w; go_simp⟩) rfl ?_
              simp only [Act.put, List.setIfInBounds_toArray, List.set_cons_zero, List.set_cons_succ]
              refine wpAny_takeD (i := 4) (d := 19) (v := .int .i64 k) rfl (by kernel_rfl) (by kernel_rfl) (by kernel_rfl) (fun _ _ _ h => h) (Or.inl ⟨by rfl, by intro w; go_simp⟩) rfl ?_
              simp only [Act.put, List.setIfInBounds_toArray, List.set_cons_zero, List.set_cons_succ]
              refine wpAny_takeD (i := 5) (d := 20) (v := .bool true) rfl (by kernel_rfl) (by kernel_rfl) (by kernel_rfl) (fun _ _ _ h => h) (Or.inl ⟨by rfl, by intro w; go_simp⟩) rfl ?_
              simp only [Act.put, List.setIfInBounds_toArray, List.set_cons_zero, List.set_cons_succ]
              refine wpAny_takeD (i := 6) (d := 21) (v := .bool true) rfl (by kernel_rfl) (by kernel_rfl) (by kernel_rfl) (fun _ _ _ h => h) (Or.inl ⟨by rfl, by intro w; go_simp⟩) rfl ?_
              simp only [Act.put, List.setIfInBounds_toArray, List.set_cons_zero, List.set_cons_succ]
              refine wpAny_takeD (i := 7) (d := 22) (v := .slice (some ⟨b, off, none⟩) es.length cap) rfl (by kernel_rfl) (by kernel_rfl) (by kernel_rfl) (fun _ _ _ h => h) (Or.inl ⟨by rfl, by intro w; go_simp⟩) rfl ?_
              simp only [Act.put, List.setIfInBounds_toArray, List.set_cons_zero, List.set_cons_succ]
              refine wpAny_takeD (i := 8) (d := 23) (v := .int .i64 k) rfl (by kernel_rfl) (by kernel_rfl) (by kernel_rfl) (fun _ _ _ h => h) (Or.inl ⟨by rfl, by intro w; go_simp⟩) rfl ?_
              simp only [Act.put, List.setIfInBounds_toArray, List.set_cons_zero, List.set_cons_succ]
              refine wpAny_takeD (i := 9) (d := 24) (v := .int .i64 j) rfl (by kernel_rfl) (by kernel_rfl) (by kernel_rfl) (fun _ _ _ h => h) (Or.inl ⟨by rfl, by intro w; go_simp⟩) rfl ?_
              simp only [Act.put, List.setIfInBounds_toArray, List.set_cons_zero, List.set_cons_succ]
              refine wpAny_takeD (i := 10) (d := 25) (v := .pointer (some ⟨b, off + j * 2, none⟩)) rfl (by kernel_rfl) (by kernel_rfl) (by kernel_rfl) (fun _ _ _ h => h) (Or.inl ⟨by rfl, by intro w; go_simp⟩) rfl ?_
              simp only [Act.put, List.setIfInBounds_toArray, List.set_cons_zero, List.set_cons_succ]
              refine wpAny_takeD (i := 11) (d := 26) (v := .pointer (some ⟨b, off + j * 2, none⟩)) rfl (by kernel_rfl) (by kernel_rfl) (by kernel_rfl) (fun _ _ _ h => h) (Or.inl ⟨by rfl, by intro w; go_simp⟩) rfl ?_
              simp only [Act.put, List.setIfInBounds_toArray, List.set_cons_zero, List.set_cons_succ]
              refine wpAny_takeD (i := 13) (d := 28) (v := .pointer (some ⟨wr.heap.size, 0, none⟩)) rfl (by kernel_rfl) (by kernel_rfl) (by kernel_rfl) (fun _ _ _ h => h) (Or.inl ⟨by rfl, by intro w; go_simp⟩) rfl ?_
              simp only [Act.put, List.setIfInBounds_toArray, List.set_cons_zero, List.set_cons_succ]
              refine wpAny_ready (rs := [12, 14]) (by kernel_rfl) (by simp) ?_
              refine AllReady.cons rfl (fun K hK => ?_) (AllReady.cons rfl (fun K hK => ?_) AllReady.nil)
              · go_simp
                refine hK _ _ ?_
                clear hK K
                refine wpAny_ready (rs := [14]) (by kernel_rfl) (by simp) ?_
                refine AllReady.cons rfl (fun K hK => ?_) AllReady.nil
                go_simp
                refine hK _ _ ?_
                clear hK K
                refine wpAny_takeD (i := 15) (d := 30) (v := .bool true) rfl (by kernel_rfl) (by kernel_rfl) (by kernel_rfl) (fun _ _ _ h => h) (Or.inl ⟨by rfl, by intro w; go_simp⟩) rfl ?_
                simp only [Act.put, List.setIfInBounds_toArray, List.set_cons_zero, List.set_cons_succ]
                refine wpAny_takeD (i := 16) (d := 31) (v := .bool true) rfl (by kernel_rfl) (by kernel_rfl) (by kernel_rfl) (fun _ _ _ h => h) (Or.inl ⟨by rfl, by intro w; go_simp⟩) rfl ?_
                simp only [Act.put, List.setIfInBounds_toArray, List.set_cons_zero, List.set_cons_succ]
                refine wpAny_takeD (i := 17) (d := 32) (v := .bool true) rfl (by kernel_rfl) (by kernel_rfl) (by kernel_rfl) (fun _ _ _ h => h) (Or.inl ⟨by rfl, by intro w; go_simp⟩) rfl ?_
                simp only [Act.put, List.setIfInBounds_toArray, List.set_cons_zero, List.set_cons_succ]
                refine wpAny_done (by kernel_rfl) ?_ _
                go_wp2
                go_ret
                rw [HM.out]
                exact ⟨rfl, (HB.out.alloc HB.out.size _).drew.trans (hb1.mono (by have := HB.out.size; simp; omega))⟩
              · go_simp
                refine hK _ _ ?_
                clear hK K
                refine wpAny_ready (rs := [12]) (by kernel_rfl) (by simp) ?_
                refine AllReady.cons rfl (fun K hK => ?_) AllReady.nil
                go_simp
                refine hK _ _ ?_
                clear hK K
                refine wpAny_takeD (i := 15) (d := 30) (v := .bool true) rfl (by kernel_rfl) (by kernel_rfl) (by kernel_rfl) (fun _ _ _ h => h) (Or.inl ⟨by rfl, by intro w; go_simp⟩) rfl ?_
                simp only [Act.put, List.setIfInBounds_toArray, List.set_cons_zero, List.set_cons_succ]
                refine wpAny_takeD (i := 16) (d := 31) (v := .bool true) rfl (by kernel_rfl) (by kernel_rfl) (by kernel_rfl) (fun _ _ _ h => h) (Or.inl ⟨by rfl, by intro w; go_simp⟩) rfl ?_
                simp only [Act.put, List.setIfInBounds_toArray, List.set_cons_zero, List.set_cons_succ]
                refine wpAny_takeD (i := 17) (d := 32) (v := .bool true) rfl (by kernel_rfl) (by kernel_rfl) (by kernel_rfl) (fun _ _ _ h => h) (Or.inl ⟨by rfl, by intro w; go_simp⟩) rfl ?_
                simp only [Act.put, List.setIfInBounds_toArray, List.set_cons_zero, List.set_cons_succ]
                refine wpAny_done (by kernel_rfl) ?_ _
                go_wp2
                go_ret
                rw [HM.out]
                exact ⟨rfl, (HB.out.alloc HB.out.size _).drew.trans (hb1.mono (by have := HB.out.size; simp; omega))⟩
            | true =>
              have HM : Hid (entAt es k = true) := by show entAt es k = true; rw [HJ.out, entAt_succ HP.out HX'.out, hok, hcmp]; rfl
              go_wp2_with fail
              refine wp_region_any (by kernel_rfl) ?_
              change wpAny _ _ _ _ _ _ _ (World.drew _)
              refine wpAny_ready (rs := [0]) (by kernel_rfl) (by simp) ?_
              refine AllReady.cons rfl (fun K hK => ?_) AllReady.nil
              go_simp
              refine hK _ _ ?_
              clear hK K
              refine wpAny_ready (rs := [1]) (by kernel_rfl) (by simp) ?_
              refine AllReady.cons rfl (fun K hK => ?_) AllReady.nil
              go_simp
              refine (implEntryOk_any s f _ HF1.out HF2.out).mono ?_
              rintro e w1 ⟨rfl, hb1⟩
              rw [hok]
              have s0 := (hb1.cell (p := ⟨wr.heap.size, 0, none⟩) (by simp)).trans (show _ = some (Value.string s) by simp [go_sem])
              have s3 := (hb1.cell (p := ⟨b, off + j * 2, none⟩) (by simp; omega)).trans (show _ = some (Value.string q) by simp [go_sem, e3, hbl])
              have hz1 : wr.heap.size < w1.heap.size := by have := hb1.size; simp at this; omega
              refine hK _ _ ?_
              clear hK K
              refine wpAny_takeD (i := 2) (d := 17) (v := .bool false) rfl (by kernel_rfl) (by kernel_rfl) (by kernel_rfl) (fun _ _ _ h => h) (Or.inl ⟨by rfl, by intro w; go_simp⟩) rfl ?_
              simp only [Act.put, List.setIfInBounds_toArray, List.set_cons_zero, List.set_cons_succ]
              refine wpAny_takeD (i := 3) (d := 18) (v := .bool false) rfl (by kernel_rfl) (by kernel_rfl) (by kernel_rfl) (fun _ _ _ h => h) (Or.inl ⟨by rfl, by intro w; go_simp⟩) rfl ?_
              simp only [Act.put, List.setIfInBounds_toArray, List.set_cons_zero, List.set_cons_succ]
              refine wpAny_takeD (i := 4) (d := 19) (v := .int .i64 k) rfl (by kernel_rfl) (by kernel_rfl) (by kernel_rfl) (fun _ _ _ h => h) (Or.inl ⟨by rfl, by intro w; go_simp⟩) rfl ?_
              simp only [Act.put, List.setIfInBounds_toArray, List.set_cons_zero, List.set_cons_succ]
              refine wpAny_takeD (i := 5) (d := 20) (v := .bool true) rfl (by kernel_rfl) (by kernel_rfl) (by kernel_rfl) (fun _ _ _ h => h) (Or.inl ⟨by rfl, by intro w; go_simp⟩) rfl ?_
              simp only [Act.put, List.setIfInBounds_toArray, List.set_cons_zero, List.set_cons_succ]
              refine wpAny_takeD (i := 6) (d := 21) (v := .bool true) rfl (by kernel_rfl) (by kernel_rfl) (by kernel_rfl) (fun _ _ _ h => h) (Or.inl ⟨by rfl, by intro w; go_simp⟩) rfl ?_
              simp only [Act.put, List.setIfInBounds_toArray, List.set_cons_zero, List.set_cons_succ]
              refine wpAny_takeD (i := 7) (d := 22) (v := .slice (some ⟨b, off, none⟩) es.length cap) rfl (by kernel_rfl) (by kernel_rfl) (by kernel_rfl) (fun _ _ _ h => h) (Or.inl ⟨by rfl, by intro w; go_simp⟩) rfl ?_
              simp only [Act.put, List.setIfInBounds_toArray, List.set_cons_zero, List.set_cons_succ]
              refine wpAny_takeD (i := 8) (d := 23) (v := .int .i64 k) rfl (by kernel_rfl) (by kernel_rfl) (by kernel_rfl) (fun _ _ _ h => h) (Or.inl ⟨by rfl, by intro w; go_simp⟩) rfl ?_
              simp only [Act.put, List.setIfInBounds_toArray, List.set_cons_zero, List.set_cons_succ]
              refine wpAny_takeD (i := 9) (d := 24) (v := .int .i64 j) rfl (by kernel_rfl) (by kernel_rfl) (by kernel_rfl) (fun _ _ _ h => h) (Or.inl ⟨by rfl, by intro w; go_simp⟩) rfl ?_
              simp only [Act.put, List.setIfInBounds_toArray, List.set_cons_zero, List.set_cons_succ]
              refine wpAny_takeD (i := 10) (d := 25) (v := .pointer (some ⟨b, off + j * 2, none⟩)) rfl (by kernel_rfl) (by kernel_rfl) (by kernel_rfl) (fun _ _ _ h => h) (Or.inl ⟨by rfl, by intro w; go_simp⟩) rfl ?_
              simp only [Act.put, List.setIfInBounds_toArray, List.set_cons_zero, List.set_cons_succ]
              refine wpAny_takeD (i := 11) (d := 26) (v := .pointer (some ⟨b, off + j * 2, none⟩)) rfl (by kernel_rfl) (by kernel_rfl) (by kernel_rfl) (fun _ _ _ h => h) (Or.inl ⟨by rfl, by intro w; go_simp⟩) rfl ?_
              simp only [Act.put, List.setIfInBounds_toArray, List.set_cons_zero, List.set_cons_succ]
              refine wpAny_takeD (i := 13) (d := 28) (v := .pointer (some ⟨wr.heap.size, 0, none⟩)) rfl (by kernel_rfl) (by kernel_rfl) (by kernel_rfl) (fun _ _ _ h => h) (Or.inl ⟨by rfl, by intro w; go_simp⟩) rfl ?_
              simp only [Act.put, List.setIfInBounds_toArray, List.set_cons_zero, List.set_cons_succ]
              refine wpAny_ready (rs := [12, 14]) (by kernel_rfl) (by simp) ?_
              refine AllReady.cons rfl (fun K hK => ?_) (AllReady.cons rfl (fun K hK => ?_) AllReady.nil)
              · go_simp
                refine hK _ _ ?_
                clear hK K
                refine wpAny_ready (rs := [14]) (by kernel_rfl) (by simp) ?_
                refine AllReady.cons rfl (fun K hK => ?_) AllReady.nil
                go_simp
                refine hK _ _ ?_
                clear hK K
                refine wpAny_takeD (i := 15) (d := 30) (v := .bool false) rfl (by kernel_rfl) (by kernel_rfl) (by kernel_rfl) (fun _ _ _ h => h) (Or.inl ⟨by rfl, by intro w; go_simp⟩) rfl ?_
                simp only [Act.put, List.setIfInBounds_toArray, List.set_cons_zero, List.set_cons_succ]
                refine wpAny_takeD (i := 16) (d := 31) (v := .bool false) rfl (by kernel_rfl) (by kernel_rfl) (by kernel_rfl) (fun _ _ _ h => h) (Or.inl ⟨by rfl, by intro w; go_simp⟩) rfl ?_
                simp only [Act.put, List.setIfInBounds_toArray, List.set_cons_zero, List.set_cons_succ]
                refine wpAny_takeD (i := 17) (d := 32) (v := .bool false) rfl (by kernel_rfl) (by kernel_rfl) (by kernel_rfl) (fun _ _ _ h => h) (Or.inl ⟨by rfl, by intro w; go_simp⟩) rfl ?_
                simp only [Act.put, List.setIfInBounds_toArray, List.set_cons_zero, List.set_cons_succ]
                refine wpAny_done (by kernel_rfl) ?_ _
                go_wp2
                go_roundw
                case rel => exact ⟨k + 1, by omega, by go_num, HN.out HM.out, (HB.out.alloc HB.out.size _).drew.trans (hb1.mono (by have := HB.out.size; simp; omega))⟩
                case measure => simp [intOf]; omega
              · go_simp
                refine hK _ _ ?_
                clear hK K
                refine wpAny_ready (rs := [12]) (by kernel_rfl) (by simp) ?_
                refine AllReady.cons rfl (fun K hK => ?_) AllReady.nil
                go_simp
                refine hK _ _ ?_
                clear hK K
                refine wpAny_takeD (i := 15) (d := 30) (v := .bool false) rfl (by kernel_rfl) (by kernel_rfl) (by kernel_rfl) (fun _ _ _ h => h) (Or.inl ⟨by rfl, by intro w; go_simp⟩) rfl ?_
                simp only [Act.put, List.setIfInBounds_toArray, List.set_cons_zero, List.set_cons_succ]
                refine wpAny_takeD (i := 16) (d := 31) (v := .bool false) rfl (by kernel_rfl) (by kernel_rfl) (by kernel_rfl) (fun _ _ _ h => h) (Or.inl ⟨by rfl, by intro w; go_simp⟩) rfl ?_
                simp only [Act.put, List.setIfInBounds_toArray, List.set_cons_zero, List.set_cons_succ]
                refine wpAny_takeD (i := 17) (d := 32) (v := .bool false) rfl (by kernel_rfl) (by kernel_rfl) (by kernel_rfl) (fun _ _ _ h => h) (Or.inl ⟨by rfl, by intro w; go_simp⟩) rfl ?_
                simp only [Act.put, List.setIfInBounds_toArray, List.set_cons_zero, List.set_cons_succ]
                refine wpAny_done (by kernel_rfl) ?_ _
                go_wp2
                go_roundw
                case rel => exact ⟨k + 1, by omega, by go_num, HN.out HM.out, (HB.out.alloc HB.out.size _).drew.trans (hb1.mono (by have := HB.out.size; simp; omega))⟩
                case measure => simp [intOf]; omega
      · have HM : Hid (entsT es = true) := by
          show entsT es = true
          rw [entsT_good (fun i hi => HA.out i (by omega))]
          simpa using h8
        go_wp2
        go_ret
        rw [HM.out]
        exact ⟨rfl, HB.out⟩
  · have HM : Hid (entsT es = false) := entsT_long h8
    have h8' : (es.length : Int) > 24 := by omega
    go_enter Tryz.func48, Tryz.ntmps48
    go_wp2
    go_ret
    rw [HM.out]
    exact ⟨rfl, Below.refl _ _⟩
set_option maxHeartbeats 1000000 in
theorem implBookOk_any (w : World) (va ve : Value) (xs : List Aff) (es : List (ByteArray × ByteArray)) (ha : AffsAt w va xs) (he : EntsAt w ve es) :
    Calls Tryz.prog 24 #[.agg #[va, ve]] w fun e w' => e = .returned (.bool (bookT xs es)) ∧ Below w.heap.size w w' := by
  obtain ⟨a, cap, rfl, hc, hm⟩ := ha.form
  obtain ⟨a', cap', rfl, hc', hm'⟩ := he.form
  have HA : Hid (AffsAt w (.slice a xs.length cap) xs) := ha
  have HE : Hid (EntsAt w (.slice a' es.length cap') es) := he
  clear ha he
  go_enter Tryz.func24, Tryz.ntmps24
  go_wp2_with fail
  refine (affixesOk_any _ _ xs (HA.out.below ((Below.refl _ _).alloc (Nat.le_refl _) _))).mono ?_
  rintro e w1 ⟨rfl, hb1⟩
  have HB1 : Hid (Below w.heap.size w w1) := Below.trans ((Below.refl _ _).alloc (Nat.le_refl _) _) (hb1.mono (by simp <;> omega))
  have hcl : w1.cell? ⟨w.heap.size, 1, none⟩ = some (.slice a' es.length cap') := (hb1.cell (p := ⟨w.heap.size, 1, none⟩) (by simp)).trans (by simp [go_sem])
  have hz : w.heap.size < w1.heap.size := by have := hb1.size; simp at this; omega
  clear hb1
  cases hok : affsT xs with
  | false =>
    have HC : Hid (bookT xs es = false) := by show bookT xs es = false; simp [bookT, hok]
    go_wp2
    go_ret
    rw [HC.out]
    exact ⟨rfl, HB1.out⟩
  | true =>
    have HC : Hid (bookT xs es = entsT es) := by show bookT xs es = _; simp [bookT, hok]
    go_wp2_with fail
    refine (entriesOk_any _ _ es (HE.out.below HB1.out)).mono ?_
    rintro e w2 ⟨rfl, hb2⟩
    have HB2 : Hid (Below w.heap.size w w2) := HB1.out.trans (hb2.mono HB1.out.size)
    clear hb2 hcl
    go_wp2
    go_ret
    rw [HC.out]
    exact ⟨rfl, HB2.out⟩
end Go.Proofs.YthedglgljehmgaaGreatDoor
/-
  spec.l2Affixes, spec.BookOk; the law FnExactBookOk.
-/
namespace Go.Proofs.YthedglgljehmgaaGreatDoor
open Go.RowKit
set_option linter.unusedVariables false
theorem affEq_comm (x y : Aff) : affEq x y = affEq y x := by
  unfold affEq
  rw [Bool.eq_iff_iff]
  simp only [decide_eq_true_eq]
  constructor <;> (rintro ⟨h1, h2, h3, h4, h5⟩; exact ⟨h1.symm, h2.symm, h3.symm, h4.symm, h5.symm⟩)
theorem affIn_take_found {xs : List Aff} {x y : Aff} {j i : Nat} (hy : xs[j]? = some y) (hj : j < i) (h : affEq x y = true) : affIn (xs.take i) x = true :=
  affIn_found (k := j) (y := y) (by rw [List.getElem?_take_of_lt hj]; exact hy) h
set_option maxRecDepth 100000 in
set_option maxHeartbeats 2000000 in
theorem l2Affixes_any (w : World) (v : Value) (xs : List Aff) (h : AffsAt w v xs) :
    Calls Tryz.prog 58 #[v] w fun e w' => e = .returned (.bool (affsT xs)) ∧ Below w.heap.size w w' := by
  obtain ⟨a, cap, rfl, hc, hm⟩ := h.form
  have HS : Hid (AffsAt w (.slice a xs.length cap) xs) := h
  clear h
  unfold maxLen at hm
  have hgd := run_affGuard
  have heq := run_affEq5
  go_enter Tryz.func58, Tryz.ntmps58
  go_wp2
  go_loopw [3] (fun i wr => ∃ (k : Nat), k ≤ xs.length ∧ i = .int .i64 k ∧ (∀ j, j < k → affAt xs j = true) ∧ Below w.heap.size w wr) (fun i _ => xs.length - (intOf i).toNat)
  case atStart => exact ⟨0, Nat.zero_le _, rfl, fun j hj => absurd hj (by omega), Below.refl _ _⟩
  case round =>
    rename World => wo
    obtain ⟨k, hk, rfl, hall, hb⟩ := hrel
    have HA : Hid (∀ j, j < k → affAt xs j = true) := hall
    have HB : Hid (Below w.heap.size w wo) := hb
    clear hall hb
    by_cases hlt : k < xs.length
    · obtain ⟨b, off, cap', x, hv, hbl, hx, hxf, e0, e1, e2, e3, e4⟩ := (HS.out.below HB.out).at hlt
      cases hv
      have HX0 := affAt_at hx
      have HXX : Hid (xs[k]? = some x) := hx
      obtain ⟨f, fr, st, ad, wh⟩ := x
      simp only at e0 e1 e2 e3 e4
      have HF : Hid (Aff.fits ⟨f, fr, st, ad, wh⟩) := hxf
      have HX' : Hid (affAt xs k = (affOk ⟨f, fr, st, ad, wh⟩ && !affIn (xs.take k) ⟨f, fr, st, ad, wh⟩)) := HX0
      clear hx hxf HX0
      go_wp2_with fail
      refine (specAffixOk_any ⟨f, fr, st, ad, wh⟩ _ HF.out).mono ?_
      rintro e w1 ⟨rfl, hb1⟩
      have HB1 : Hid (Below w.heap.size w w1) := HB.out.trans (hb1.mono HB.out.size)
      clear hb1 e0 e1 e2 e3 e4
      cases hok : affOk ⟨f, fr, st, ad, wh⟩ with
      | false =>
        have HM : Hid (affsT xs = false) := affsT_bad k hlt (by rw [HX'.out, hok]; rfl)
        go_wp2
        go_ret
        rw [HM.out]
        exact ⟨rfl, HB1.out⟩
      | true =>
        go_wp2
        go_loopw [4] (fun i wr => ∃ (j : Nat), j ≤ k ∧ i = .int .i64 j ∧ affIn (xs.take j) ⟨f, fr, st, ad, wh⟩ = false ∧ Below w.heap.size w wr) (fun i _ => k - (intOf i).toNat)
        case atStart => exact ⟨0, Nat.zero_le _, rfl, rfl, HB1.out⟩
        case round =>
          obtain ⟨j, hj, rfl, hni, hb⟩ := hrel
          have HBj : Hid (Below w.heap.size w wr) := hb
          have HNI : Hid (affIn (xs.take j) ⟨f, fr, st, ad, wh⟩ = false) := hni
          clear hb hni
          by_cases hjk : j < k
          · obtain ⟨b1, off1, cap1, y, hv, hbl1, hy, _, d0, d1, d2, d3, d4⟩ := (HS.out.below HBj.out).at (k := j) (by omega)
            cases hv
            obtain ⟨b2, off2, cap2, y2, hv, _, hy2, _, c0, c1, c2, c3, c4⟩ := (HS.out.below HBj.out).at hlt
            cases hv
            rw [HXX.out] at hy2
            cases hy2
            have HY : Hid (xs[j]? = some y) := hy
            obtain ⟨f', fr', st', ad', wh'⟩ := y
            simp only at c0 c1 c2 c3 c4 d0 d1 d2 d3 d4
            clear hy
            have hjx : j < xs.length := by omega
            cases hq : affEq ⟨f', fr', st', ad', wh'⟩ ⟨f, fr, st, ad, wh⟩ with
            | true =>
              have HM : Hid (affsT xs = false) := affsT_bad k hlt (by rw [HX'.out, affIn_take_found HY.out hjk (by rw [affEq_comm]; exact hq)]; simp)
              go_wp2_with fail
              go_quiet (fail)
              go_wp2
              go_ret
              rw [HM.out]
              exact ⟨rfl, below_drewN70 HBj.out _⟩
            | false =>
              have HI : Hid (affIn (xs.take (j + 1)) ⟨f, fr, st, ad, wh⟩ = false) := by show affIn (xs.take (j + 1)) ⟨f, fr, st, ad, wh⟩ = false; rw [affIn_take HY.out, HNI.out, affEq_comm, hq]; rfl
              go_wp2_with fail
              go_quiet (fail)
              go_wp2
              go_roundw
              case rel => exact ⟨j + 1, by omega, by go_num, HI.out, below_drewN70 HBj.out _⟩
              case measure => simp [intOf]; omega
          · obtain rfl : j = k := by omega
            have HM : Hid (affAt xs j = true) := by show affAt xs j = true; rw [HX'.out, hok, HNI.out]; rfl
            go_wp2
            go_roundw
            case rel =>
              refine ⟨j + 1, by omega, by go_num, fun i hi => ?_, HBj.out⟩
              by_cases e : i = j
              · rw [e]; exact HM.out
              · exact HA.out i (by omega)
            case measure => simp [intOf]; omega
    · have HM : Hid (affsT xs = decide (xs.length ≤ 8)) := affsT_good (fun i hi => HA.out i (by omega))
      by_cases h8 : xs.length ≤ 8
      · have h8' : (xs.length : Int) ≤ 8 := by omega
        have HM' : Hid (affsT xs = true) := by show affsT xs = true; rw [HM.out]; simpa using h8
        go_wp2
        go_ret
        rw [HM'.out]
        exact ⟨rfl, HB.out⟩
      · have h8' : ¬ (xs.length : Int) ≤ 8 := by omega
        have HM' : Hid (affsT xs = false) := by show affsT xs = false; rw [HM.out]; simpa using h8
        go_wp2
        go_ret
        rw [HM'.out]
        exact ⟨rfl, HB.out⟩
end Go.Proofs.YthedglgljehmgaaGreatDoor
/-
  spec.BookOk.
-/
namespace Go.Proofs.YthedglgljehmgaaGreatDoor
open Go.RowKit
set_option linter.unusedVariables false
theorem below_step78 {w wr w1 : World} (h : Below w.heap.size w wr) (hb : Below (World.drew wr).heap.size (World.drew wr) w1) : Below w.heap.size w w1 := h.drew.trans (hb.mono h.size)
set_option maxRecDepth 100000 in
set_option maxHeartbeats 4000000 in
theorem specBookOk_any (w : World) (va ve : Value) (xs : List Aff) (es : List (ByteArray × ByteArray)) (ha : AffsAt w va xs) (he : EntsAt w ve es) :
    Calls Tryz.prog 28 #[.agg #[va, ve]] w fun e w' => e = .returned (.bool (bookT xs es)) ∧ Below w.heap.size w w' := by
  obtain ⟨a0, cap0, rfl, hc0, hm0⟩ := ha.form
  obtain ⟨a, cap, rfl, hc, hm⟩ := he.form
  have HAF : Hid (AffsAt w (.slice a0 xs.length cap0) xs) := ha
  have HS : Hid (EntsAt w (.slice a es.length cap) es) := he
  clear ha he
  unfold maxLen at hm hm0
  go_enter Tryz.func28, Tryz.ntmps28
  go_wp2
  go_loopw [3] (fun i wr => ∃ (k : Nat), k ≤ es.length ∧ i = .int .i64 k ∧ (∀ j, j < k → entAt es j = true) ∧ wr.cell? ⟨w.heap.size, 0, none⟩ = some (.slice a0 xs.length cap0) ∧ wr.cell? ⟨w.heap.size, 1, none⟩ = some (.slice a es.length cap) ∧ w.heap.size < wr.heap.size ∧ Below w.heap.size w wr) (fun i _ => es.length - (intOf i).toNat)
  case atStart => exact ⟨0, Nat.zero_le _, rfl, fun j hj => absurd hj (by omega), by simp [go_sem], by simp [go_sem], by simp, (Below.refl _ _).alloc (Nat.le_refl _) _⟩
  case round =>
    obtain ⟨k, hk, rfl, hall, m0, m1, m4, hb⟩ := hrel
    have HA : Hid (∀ j, j < k → entAt es j = true) := hall
    have HB : Hid (Below w.heap.size w wr) := hb
    clear hall hb
    by_cases hlt : k < es.length
    · obtain ⟨b, off, cap', x, hv, hbl, hx, ⟨hx1, hx2⟩, e0, e1⟩ := (HS.out.below HB.out).at hlt
      cases hv
      have HX : Hid (es[k]? = some x) := hx
      obtain ⟨s, f⟩ := x
      simp only at e0 e1 hx1 hx2
      have HF1 : Hid (s.size ≤ maxLen) := hx1
      have HF2 : Hid (f.size ≤ maxLen) := hx2
      have HN : Hid (entAt es k = true → ∀ j, j < k + 1 → entAt es j = true) := by
        intro hg j hj
        by_cases e : j = k
        · rw [e]; exact hg
        · exact HA.out j (by omega)
      clear hx hx1 hx2
      cases hok : entT s f with
      | false =>
        have HM : Hid (bookT xs es = false) := by show bookT xs es = false; unfold bookT; rw [entsT_bad k hlt (entAt_no HX.out hok)]; simp
        go_wp2_with fail
        refine wp_region_any (by kernel_rfl) ?_
        change wpAny _ _ _ _ _ _ _ (World.drew _)
        refine wpAny_takeD (i := 0) (d := 11) (v := .pointer (some ⟨w.heap.size, 1, none⟩)) rfl (by kernel_rfl) (by kernel_rfl) (by kernel_rfl) (fun _ _ _ h => h) (Or.inl ⟨by rfl, by intro w; go_simp⟩) rfl ?_
        simp only [Act.put, List.setIfInBounds_toArray, List.set_cons_zero, List.set_cons_succ]
        refine wpAny_takeD (i := 2) (d := 13) (v := .int .i64 k) rfl (by kernel_rfl) (by kernel_rfl) (by kernel_rfl) (fun _ _ _ h => h) (Or.inl ⟨by rfl, by intro w; go_simp⟩) rfl ?_
        simp only [Act.put, List.setIfInBounds_toArray, List.set_cons_zero, List.set_cons_succ]
        refine wpAny_ready (rs := [1]) (by kernel_rfl) (by simp) ?_
        refine AllReady.cons rfl (fun K hK => ?_) AllReady.nil
        go_simp
        refine hK _ _ ?_
        clear hK K
        refine wpAny_takeD (i := 3) (d := 14) (v := .pointer (some ⟨b, off + k * 2, none⟩)) rfl (by kernel_rfl) (by kernel_rfl) (by kernel_rfl) (fun _ _ _ h => h) (Or.inl ⟨by rfl, by intro w; go_simp⟩) rfl ?_
        simp only [Act.put, List.setIfInBounds_toArray, List.set_cons_zero, List.set_cons_succ]
        refine wpAny_ready (rs := [4]) (by kernel_rfl) (by simp) ?_
        refine AllReady.cons rfl (fun K hK => ?_) AllReady.nil
        go_simp
        refine hK _ _ ?_
        clear hK K
        refine wpAny_ready (rs := [5]) (by kernel_rfl) (by simp) ?_
        refine AllReady.cons rfl (fun K hK => ?_) AllReady.nil
        go_simp
        refine (l2Entry_any s f _ HF1.out HF2.out).mono ?_
        rintro e w1 ⟨rfl, hb1⟩
        rw [hok]
        refine hK _ _ ?_
        clear hK K
        refine wpAny_takeD (i := 6) (d := 17) (v := .bool true) rfl (by kernel_rfl) (by kernel_rfl) (by kernel_rfl) (fun _ _ _ h => h) (Or.inl ⟨by rfl, by intro w; go_simp⟩) rfl ?_
        simp only [Act.put, List.setIfInBounds_toArray, List.set_cons_zero, List.set_cons_succ]
        refine wpAny_takeD (i := 7) (d := 18) (v := .bool true) rfl (by kernel_rfl) (by kernel_rfl) (by kernel_rfl) (fun _ _ _ h => h) (Or.inl ⟨by rfl, by intro w; go_simp⟩) rfl ?_
        simp only [Act.put, List.setIfInBounds_toArray, List.set_cons_zero, List.set_cons_succ]
        refine wpAny_takeD (i := 8) (d := 19) (v := undef) rfl (by kernel_rfl) (by kernel_rfl) (by kernel_rfl) (fun _ _ _ h => h) (Or.inr ⟨by rfl, rfl⟩) rfl ?_
        simp only [Act.put, List.setIfInBounds_toArray, List.set_cons_zero, List.set_cons_succ]
        refine wpAny_takeD (i := 9) (d := 20) (v := undef) rfl (by kernel_rfl) (by kernel_rfl) (by kernel_rfl) (fun _ _ _ h => h) (Or.inr ⟨by rfl, rfl⟩) rfl ?_
        simp only [Act.put, List.setIfInBounds_toArray, List.set_cons_zero, List.set_cons_succ]
        refine wpAny_takeD (i := 10) (d := 21) (v := undef) rfl (by kernel_rfl) (by kernel_rfl) (by kernel_rfl) (fun _ _ _ h => h) (Or.inr ⟨by rfl, rfl⟩) rfl ?_
        simp only [Act.put, List.setIfInBounds_toArray, List.set_cons_zero, List.set_cons_succ]
        refine wpAny_takeD (i := 11) (d := 22) (v := undef) rfl (by kernel_rfl) (by kernel_rfl) (by kernel_rfl) (fun _ _ _ h => h) (Or.inr ⟨by rfl, rfl⟩) rfl ?_
        simp only [Act.put, List.setIfInBounds_toArray, List.set_cons_zero, List.set_cons_succ]
        refine wpAny_takeD (i := 12) (d := 23) (v := undef) rfl (by kernel_rfl) (by kernel_rfl) (by kernel_rfl) (fun _ _ _ h => h) (Or.inr ⟨by rfl, rfl⟩) rfl ?_
        simp only [Act.put, List.setIfInBounds_toArray, List.set_cons_zero, List.set_cons_succ]
        refine wpAny_takeD (i := 13) (d := 24) (v := undef) rfl (by kernel_rfl) (by kernel_rfl) (by kernel_rfl) (fun _ _ _ h => h) (Or.inr ⟨by rfl, rfl⟩) rfl ?_
        simp only [Act.put, List.setIfInBounds_toArray, List.set_cons_zero, List.set_cons_succ]
        refine wpAny_takeD (i := 14) (d := 25) (v := undef) rfl (by kernel_rfl) (by kernel_rfl) (by kernel_rfl) (fun _ _ _ h => h) (Or.inr ⟨by rfl, rfl⟩) rfl ?_
        simp only [Act.put, List.setIfInBounds_toArray, List.set_cons_zero, List.set_cons_succ]
        refine wpAny_takeD (i := 15) (d := 26) (v := undef) rfl (by kernel_rfl) (by kernel_rfl) (by kernel_rfl) (fun _ _ _ h => h) (Or.inr ⟨by rfl, rfl⟩) rfl ?_
        simp only [Act.put, List.setIfInBounds_toArray, List.set_cons_zero, List.set_cons_succ]
        refine wpAny_takeD (i := 16) (d := 27) (v := undef) rfl (by kernel_rfl) (by kernel_rfl) (by kernel_rfl) (fun _ _ _ h => h) (Or.inr ⟨by rfl, rfl⟩) rfl ?_
        simp only [Act.put, List.setIfInBounds_toArray, List.set_cons_zero, List.set_cons_succ]
        refine wpAny_takeD (i := 17) (d := 28) (v := undef) rfl (by kernel_rfl) (by kernel_rfl) (by kernel_rfl) (fun _ _ _ h => h) (Or.inr ⟨by rfl, rfl⟩) rfl ?_
        simp only [Act.put, List.setIfInBounds_toArray, List.set_cons_zero, List.set_cons_succ]
        refine wpAny_takeD (i := 18) (d := 29) (v := undef) rfl (by kernel_rfl) (by kernel_rfl) (by kernel_rfl) (fun _ _ _ h => h) (Or.inr ⟨by rfl, rfl⟩) rfl ?_
        simp only [Act.put, List.setIfInBounds_toArray, List.set_cons_zero, List.set_cons_succ]
        refine wpAny_takeD (i := 19) (d := 30) (v := undef) rfl (by kernel_rfl) (by kernel_rfl) (by kernel_rfl) (fun _ _ _ h => h) (Or.inr ⟨by rfl, rfl⟩) rfl ?_
        simp only [Act.put, List.setIfInBounds_toArray, List.set_cons_zero, List.set_cons_succ]
        refine wpAny_takeD (i := 20) (d := 31) (v := undef) rfl (by kernel_rfl) (by kernel_rfl) (by kernel_rfl) (fun _ _ _ h => h) (Or.inr ⟨by rfl, rfl⟩) rfl ?_
        simp only [Act.put, List.setIfInBounds_toArray, List.set_cons_zero, List.set_cons_succ]
        refine wpAny_takeD (i := 21) (d := 32) (v := undef) rfl (by kernel_rfl) (by kernel_rfl) (by kernel_rfl) (fun _ _ _ h => h) (Or.inr ⟨by rfl, rfl⟩) rfl ?_
        simp only [Act.put, List.setIfInBounds_toArray, List.set_cons_zero, List.set_cons_succ]
        refine wpAny_takeD (i := 22) (d := 33) (v := undef) rfl (by kernel_rfl) (by kernel_rfl) (by kernel_rfl) (fun _ _ _ h => h) (Or.inr ⟨by rfl, rfl⟩) rfl ?_
        simp only [Act.put, List.setIfInBounds_toArray, List.set_cons_zero, List.set_cons_succ]
        refine wpAny_takeD (i := 23) (d := 34) (v := undef) rfl (by kernel_rfl) (by kernel_rfl) (by kernel_rfl) (fun _ _ _ h => h) (Or.inr ⟨by rfl, rfl⟩) rfl ?_
        simp only [Act.put, List.setIfInBounds_toArray, List.set_cons_zero, List.set_cons_succ]
        refine wpAny_takeD (i := 24) (d := 35) (v := undef) rfl (by kernel_rfl) (by kernel_rfl) (by kernel_rfl) (fun _ _ _ h => h) (Or.inr ⟨by rfl, rfl⟩) rfl ?_
        simp only [Act.put, List.setIfInBounds_toArray, List.set_cons_zero, List.set_cons_succ]
        refine wpAny_takeD (i := 25) (d := 36) (v := undef) rfl (by kernel_rfl) (by kernel_rfl) (by kernel_rfl) (fun _ _ _ h => h) (Or.inr ⟨by rfl, rfl⟩) rfl ?_
        simp only [Act.put, List.setIfInBounds_toArray, List.set_cons_zero, List.set_cons_succ]
        refine wpAny_takeD (i := 26) (d := 37) (v := .bool true) rfl (by kernel_rfl) (by kernel_rfl) (by kernel_rfl) (fun _ _ _ h => h) (Or.inl ⟨by rfl, by intro w; go_simp⟩) rfl ?_
        simp only [Act.put, List.setIfInBounds_toArray, List.set_cons_zero, List.set_cons_succ]
        refine wpAny_done (by kernel_rfl) ?_ _
        go_wp2
        go_ret
        rw [HM.out]
        exact ⟨rfl, (below_step78 HB.out hb1)⟩
      | true =>
        by_cases hk0 : k = 0
        · have HY : Hid (entAt es 0 = true) := by show entAt es 0 = true; rw [entAt_zero (by rw [← hk0]; exact HX.out)]; exact hok
          subst hk0
          simp only [Nat.zero_mul, Nat.add_zero] at e0 e1
          go_wp2_with fail
          refine wp_region_any (by kernel_rfl) ?_
          change wpAny _ _ _ _ _ _ _ (World.drew _)
          refine wpAny_takeD (i := 0) (d := 11) (v := .pointer (some ⟨w.heap.size, 1, none⟩)) rfl (by kernel_rfl) (by kernel_rfl) (by kernel_rfl) (fun _ _ _ h => h) (Or.inl ⟨by rfl, by intro w; go_simp⟩) rfl ?_
          simp only [Act.put, List.setIfInBounds_toArray, List.set_cons_zero, List.set_cons_succ]
          refine wpAny_takeD (i := 2) (d := 13) (v := .int .i64 0) rfl (by kernel_rfl) (by kernel_rfl) (by kernel_rfl) (fun _ _ _ h => h) (Or.inl ⟨by rfl, by intro w; go_simp⟩) rfl ?_
          simp only [Act.put, List.setIfInBounds_toArray, List.set_cons_zero, List.set_cons_succ]
          refine wpAny_ready (rs := [1]) (by kernel_rfl) (by simp) ?_
          refine AllReady.cons rfl (fun K hK => ?_) AllReady.nil
          go_simp
          refine hK _ _ ?_
          clear hK K
          refine wpAny_takeD (i := 3) (d := 14) (v := .pointer (some ⟨b, off, none⟩)) rfl (by kernel_rfl) (by kernel_rfl) (by kernel_rfl) (fun _ _ _ h => h) (Or.inl ⟨by rfl, by intro w; go_simp⟩) rfl ?_
          simp only [Act.put, List.setIfInBounds_toArray, List.set_cons_zero, List.set_cons_succ]
          refine wpAny_ready (rs := [4]) (by kernel_rfl) (by simp) ?_
          refine AllReady.cons rfl (fun K hK => ?_) AllReady.nil
          go_simp
          refine hK _ _ ?_
          clear hK K
          refine wpAny_ready (rs := [5]) (by kernel_rfl) (by simp) ?_
          refine AllReady.cons rfl (fun K hK => ?_) AllReady.nil
          go_simp
          refine (l2Entry_any s f _ HF1.out HF2.out).mono ?_
          rintro e w1 ⟨rfl, hb1⟩
          rw [hok]
          refine hK _ _ ?_
          clear hK K
          refine wpAny_takeD (i := 6) (d := 17) (v := .bool false) rfl (by kernel_rfl) (by kernel_rfl) (by kernel_rfl) (fun _ _ _ h => h) (Or.inl ⟨by rfl, by intro w; go_simp⟩) rfl ?_
          simp only [Act.put, List.setIfInBounds_toArray, List.set_cons_zero, List.set_cons_succ]
          refine wpAny_takeD (i := 7) (d := 18) (v := .bool false) rfl (by kernel_rfl) (by kernel_rfl) (by kernel_rfl) (fun _ _ _ h => h) (Or.inl ⟨by rfl, by intro w; go_simp⟩) rfl ?_
          simp only [Act.put, List.setIfInBounds_toArray, List.set_cons_zero, List.set_cons_succ]
          refine wpAny_takeD (i := 8) (d := 19) (v := .int .i64 0) rfl (by kernel_rfl) (by kernel_rfl) (by kernel_rfl) (fun _ _ _ h => h) (Or.inl ⟨by rfl, by intro w; go_simp⟩) rfl ?_
          simp only [Act.put, List.setIfInBounds_toArray, List.set_cons_zero, List.set_cons_succ]
          refine wpAny_takeD (i := 9) (d := 20) (v := .bool false) rfl (by kernel_rfl) (by kernel_rfl) (by kernel_rfl) (fun _ _ _ h => h) (Or.inl ⟨by rfl, by intro w; go_simp⟩) rfl ?_
          simp only [Act.put, List.setIfInBounds_toArray, List.set_cons_zero, List.set_cons_succ]
          refine wpAny_takeD (i := 10) (d := 21) (v := .bool false) rfl (by kernel_rfl) (by kernel_rfl) (by kernel_rfl) (fun _ _ _ h => h) (Or.inl ⟨by rfl, by intro w; go_simp⟩) rfl ?_
          simp only [Act.put, List.setIfInBounds_toArray, List.set_cons_zero, List.set_cons_succ]
          refine wpAny_takeD (i := 11) (d := 22) (v := undef) rfl (by kernel_rfl) (by kernel_rfl) (by kernel_rfl) (fun _ _ _ h => h) (Or.inr ⟨by rfl, rfl⟩) rfl ?_
          simp only [Act.put, List.setIfInBounds_toArray, List.set_cons_zero, List.set_cons_succ]
          refine wpAny_takeD (i := 12) (d := 23) (v := undef) rfl (by kernel_rfl) (by kernel_rfl) (by kernel_rfl) (fun _ _ _ h => h) (Or.inr ⟨by rfl, rfl⟩) rfl ?_
          simp only [Act.put, List.setIfInBounds_toArray, List.set_cons_zero, List.set_cons_succ]
          refine wpAny_takeD (i := 13) (d := 24) (v := undef) rfl (by kernel_rfl) (by kernel_rfl) (by kernel_rfl) (fun _ _ _ h => h) (Or.inr ⟨by rfl, rfl⟩) rfl ?_
          simp only [Act.put, List.setIfInBounds_toArray, List.set_cons_zero, List.set_cons_succ]
          refine wpAny_takeD (i := 14) (d := 25) (v := undef) rfl (by kernel_rfl) (by kernel_rfl) (by kernel_rfl) (fun _ _ _ h => h) (Or.inr ⟨by rfl, rfl⟩) rfl ?_
          simp only [Act.put, List.setIfInBounds_toArray, List.set_cons_zero, List.set_cons_succ]
          refine wpAny_takeD (i := 15) (d := 26) (v := undef) rfl (by kernel_rfl) (by kernel_rfl) (by kernel_rfl) (fun _ _ _ h => h) (Or.inr ⟨by rfl, rfl⟩) rfl ?_
          simp only [Act.put, List.setIfInBounds_toArray, List.set_cons_zero, List.set_cons_succ]
          refine wpAny_takeD (i := 16) (d := 27) (v := undef) rfl (by kernel_rfl) (by kernel_rfl) (by kernel_rfl) (fun _ _ _ h => h) (Or.inr ⟨by rfl, rfl⟩) rfl ?_
          simp only [Act.put, List.setIfInBounds_toArray, List.set_cons_zero, List.set_cons_succ]
          refine wpAny_takeD (i := 17) (d := 28) (v := undef) rfl (by kernel_rfl) (by kernel_rfl) (by kernel_rfl) (fun _ _ _ h => h) (Or.inr ⟨by rfl, rfl⟩) rfl ?_
          simp only [Act.put, List.setIfInBounds_toArray, List.set_cons_zero, List.set_cons_succ]
          refine wpAny_takeD (i := 18) (d := 29) (v := undef) rfl (by kernel_rfl) (by kernel_rfl) (by kernel_rfl) (fun _ _ _ h => h) (Or.inr ⟨by rfl, rfl⟩) rfl ?_
          simp only [Act.put, List.setIfInBounds_toArray, List.set_cons_zero, List.set_cons_succ]
          refine wpAny_takeD (i := 19) (d := 30) (v := undef) rfl (by kernel_rfl) (by kernel_rfl) (by kernel_rfl) (fun _ _ _ h => h) (Or.inr ⟨by rfl, rfl⟩) rfl ?_
          simp only [Act.put, List.setIfInBounds_toArray, List.set_cons_zero, List.set_cons_succ]
          refine wpAny_takeD (i := 20) (d := 31) (v := undef) rfl (by kernel_rfl) (by kernel_rfl) (by kernel_rfl) (fun _ _ _ h => h) (Or.inr ⟨by rfl, rfl⟩) rfl ?_
          simp only [Act.put, List.setIfInBounds_toArray, List.set_cons_zero, List.set_cons_succ]
          refine wpAny_takeD (i := 21) (d := 32) (v := undef) rfl (by kernel_rfl) (by kernel_rfl) (by kernel_rfl) (fun _ _ _ h => h) (Or.inr ⟨by rfl, rfl⟩) rfl ?_
          simp only [Act.put, List.setIfInBounds_toArray, List.set_cons_zero, List.set_cons_succ]
          refine wpAny_takeD (i := 22) (d := 33) (v := undef) rfl (by kernel_rfl) (by kernel_rfl) (by kernel_rfl) (fun _ _ _ h => h) (Or.inr ⟨by rfl, rfl⟩) rfl ?_
          simp only [Act.put, List.setIfInBounds_toArray, List.set_cons_zero, List.set_cons_succ]
          refine wpAny_takeD (i := 23) (d := 34) (v := undef) rfl (by kernel_rfl) (by kernel_rfl) (by kernel_rfl) (fun _ _ _ h => h) (Or.inr ⟨by rfl, rfl⟩) rfl ?_
          simp only [Act.put, List.setIfInBounds_toArray, List.set_cons_zero, List.set_cons_succ]
          refine wpAny_takeD (i := 24) (d := 35) (v := undef) rfl (by kernel_rfl) (by kernel_rfl) (by kernel_rfl) (fun _ _ _ h => h) (Or.inr ⟨by rfl, rfl⟩) rfl ?_
          simp only [Act.put, List.setIfInBounds_toArray, List.set_cons_zero, List.set_cons_succ]
          refine wpAny_takeD (i := 25) (d := 36) (v := .bool false) rfl (by kernel_rfl) (by kernel_rfl) (by kernel_rfl) (fun _ _ _ h => h) (Or.inl ⟨by rfl, by intro w; go_simp⟩) rfl ?_
          simp only [Act.put, List.setIfInBounds_toArray, List.set_cons_zero, List.set_cons_succ]
          refine wpAny_takeD (i := 26) (d := 37) (v := .bool false) rfl (by kernel_rfl) (by kernel_rfl) (by kernel_rfl) (fun _ _ _ h => h) (Or.inl ⟨by rfl, by intro w; go_simp⟩) rfl ?_
          simp only [Act.put, List.setIfInBounds_toArray, List.set_cons_zero, List.set_cons_succ]
          refine wpAny_done (by kernel_rfl) ?_ _
          have n1 := (hb1.cell (p := ⟨w.heap.size, 0, none⟩) m4).trans (show _ = some (Value.slice a0 xs.length cap0) by simp [go_sem, m0])
          have n2 := (hb1.cell (p := ⟨w.heap.size, 1, none⟩) m4).trans (show _ = some (Value.slice (some ⟨b, off, none⟩) es.length cap) by simp [go_sem, m1])
          go_wp2
          go_roundw
          case rel => exact ⟨1, by omega, by go_num, HN.out HY.out, n1, n2, Nat.lt_of_lt_of_le m4 hb1.size, (below_step78 HB.out hb1)⟩
          case measure => simp [intOf]; omega
        · obtain ⟨j, hj⟩ : ∃ j : Nat, k = j + 1 := ⟨k - 1, by omega⟩
          have hlt0 : j < es.length := by omega
          have hi0 : (j : Int) < (es.length : Int) := by omega
          have hk1 : (0 : Int) < (k : Int) := by omega
          have hk2 : 0 < k := by omega
          have r1 : IntKind.i64.wrap ((k : Int) - 1) = (j : Int) := by rw [IntWalk.i64_in _ (by omega)]; omega
          obtain ⟨b1, off1, cap1, q, hv, _, hq, _, e3, _⟩ := (HS.out.below HB.out).at hlt0
          cases hv
          have HP : Hid (es[j]? = some q) := hq
          have HX' : Hid (es[j + 1]? = some (s, f)) := show es[j + 1]? = some (s, f) by rw [← hj]; exact HX.out
          obtain ⟨q, q'⟩ := q
          simp only at e3
          have HJ : Hid (k = j + 1) := hj
          clear hq hj hk0
          cases hcmp : Op.bytesLess q.toList s.toList with
          | false =>
            have HM : Hid (bookT xs es = false) := by show bookT xs es = false; unfold bookT; rw [entsT_bad k hlt (by rw [HJ.out, entAt_succ HP.out HX'.out, hok, hcmp]; rfl)]; simp
            go_wp2_with fail
            refine wp_region_any (by kernel_rfl) ?_
            change wpAny _ _ _ _ _ _ _ (World.drew _)
            refine wpAny_takeD (i := 0) (d := 11) (v := .pointer (some ⟨w.heap.size, 1, none⟩)) rfl (by kernel_rfl) (by kernel_rfl) (by kernel_rfl) (fun _ _ _ h => h) (Or.inl ⟨by rfl, by intro w; go_simp⟩) rfl ?_
            simp only [Act.put, List.setIfInBounds_toArray, List.set_cons_zero, List.set_cons_succ]
            refine wpAny_takeD (i := 2) (d := 13) (v := .int .i64 k) rfl (by kernel_rfl) (by kernel_rfl) (by kernel_rfl) (fun _ _ _ h => h) (Or.inl ⟨by rfl, by intro w; go_simp⟩) rfl ?_
            simp only [Act.put, List.setIfInBounds_toArray, List.set_cons_zero, List.set_cons_succ]
            refine wpAny_ready (rs := [1]) (by kernel_rfl) (by simp) ?_
            refine AllReady.cons rfl (fun K hK => ?_) AllReady.nil
            go_simp
            refine hK _ _ ?_
            clear hK K
            refine wpAny_takeD (i := 3) (d := 14) (v := .pointer (some ⟨b, off + k * 2, none⟩)) rfl (by kernel_rfl) (by kernel_rfl) (by kernel_rfl) (fun _ _ _ h => h) (Or.inl ⟨by rfl, by intro w; go_simp⟩) rfl ?_
            simp only [Act.put, List.setIfInBounds_toArray, List.set_cons_zero, List.set_cons_succ]
            refine wpAny_ready (rs := [4]) (by kernel_rfl) (by simp) ?_
            refine AllReady.cons rfl (fun K hK => ?_) AllReady.nil
            go_simp
            refine hK _ _ ?_
            clear hK K
            refine wpAny_ready (rs := [5]) (by kernel_rfl) (by simp) ?_
            refine AllReady.cons rfl (fun K hK => ?_) AllReady.nil
            go_simp
            refine (l2Entry_any s f _ HF1.out HF2.out).mono ?_
            rintro e w1 ⟨rfl, hb1⟩
            rw [hok]
            have s0 := (hb1.cell (p := ⟨w.heap.size, 1, none⟩) m4).trans (show _ = some (Value.slice (some ⟨b, off, none⟩) es.length cap) by simp [go_sem, m1])
            have s1 := (hb1.cell (p := ⟨b, off + k * 2, none⟩) hbl).trans (show _ = some (Value.string s) by simp [go_sem, e0])
            have s3 := (hb1.cell (p := ⟨b, off + j * 2, none⟩) hbl).trans (show _ = some (Value.string q) by simp [go_sem, e3])
            have hz1 : w.heap.size < w1.heap.size := Nat.lt_of_lt_of_le m4 hb1.size
            have hz2 : b < w1.heap.size := Nat.lt_of_lt_of_le hbl hb1.size
            refine hK _ _ ?_
            clear hK K
            refine wpAny_takeD (i := 6) (d := 17) (v := .bool false) rfl (by kernel_rfl) (by kernel_rfl) (by kernel_rfl) (fun _ _ _ h => h) (Or.inl ⟨by rfl, by intro w; go_simp⟩) rfl ?_
            simp only [Act.put, List.setIfInBounds_toArray, List.set_cons_zero, List.set_cons_succ]
            refine wpAny_takeD (i := 7) (d := 18) (v := .bool false) rfl (by kernel_rfl) (by kernel_rfl) (by kernel_rfl) (fun _ _ _ h => h) (Or.inl ⟨by rfl, by intro w; go_simp⟩) rfl ?_
            simp only [Act.put, List.setIfInBounds_toArray, List.set_cons_zero, List.set_cons_succ]
            refine wpAny_takeD (i := 8) (d := 19) (v := .int .i64 k) rfl (by kernel_rfl) (by kernel_rfl) (by kernel_rfl) (fun _ _ _ h => h) (Or.inl ⟨by rfl, by intro w; go_simp⟩) rfl ?_
            simp only [Act.put, List.setIfInBounds_toArray, List.set_cons_zero, List.set_cons_succ]
            refine wpAny_takeD (i := 9) (d := 20) (v := .bool true) rfl (by kernel_rfl) (by kernel_rfl) (by kernel_rfl) (fun _ _ _ h => h) (Or.inl ⟨by rfl, by intro w; go_simp⟩) rfl ?_
            simp only [Act.put, List.setIfInBounds_toArray, List.set_cons_zero, List.set_cons_succ]
            refine wpAny_takeD (i := 10) (d := 21) (v := .bool true) rfl (by kernel_rfl) (by kernel_rfl) (by kernel_rfl) (fun _ _ _ h => h) (Or.inl ⟨by rfl, by intro w; go_simp⟩) rfl ?_
            simp only [Act.put, List.setIfInBounds_toArray, List.set_cons_zero, List.set_cons_succ]
            refine wpAny_takeD (i := 11) (d := 22) (v := .pointer (some ⟨w.heap.size, 1, none⟩)) rfl (by kernel_rfl) (by kernel_rfl) (by kernel_rfl) (fun _ _ _ h => h) (Or.inl ⟨by rfl, by intro w; go_simp⟩) rfl ?_
            simp only [Act.put, List.setIfInBounds_toArray, List.set_cons_zero, List.set_cons_succ]
            refine wpAny_takeD (i := 13) (d := 24) (v := .int .i64 k) rfl (by kernel_rfl) (by kernel_rfl) (by kernel_rfl) (fun _ _ _ h => h) (Or.inl ⟨by rfl, by intro w; go_simp⟩) rfl ?_
            simp only [Act.put, List.setIfInBounds_toArray, List.set_cons_zero, List.set_cons_succ]
            refine wpAny_takeD (i := 14) (d := 25) (v := .int .i64 j) rfl (by kernel_rfl) (by kernel_rfl) (by kernel_rfl) (fun _ _ _ h => h) (Or.inl ⟨by rfl, by intro w; go_simp⟩) rfl ?_
            simp only [Act.put, List.setIfInBounds_toArray, List.set_cons_zero, List.set_cons_succ]
            refine wpAny_takeD (i := 18) (d := 29) (v := .pointer (some ⟨w.heap.size, 1, none⟩)) rfl (by kernel_rfl) (by kernel_rfl) (by kernel_rfl) (fun _ _ _ h => h) (Or.inl ⟨by rfl, by intro w; go_simp⟩) rfl ?_
            simp only [Act.put, List.setIfInBounds_toArray, List.set_cons_zero, List.set_cons_succ]
            refine wpAny_takeD (i := 20) (d := 31) (v := .int .i64 k) rfl (by kernel_rfl) (by kernel_rfl) (by kernel_rfl) (fun _ _ _ h => h) (Or.inl ⟨by rfl, by intro w; go_simp⟩) rfl ?_
            simp only [Act.put, List.setIfInBounds_toArray, List.set_cons_zero, List.set_cons_succ]
            refine wpAny_ready (rs := [12, 19]) (by kernel_rfl) (by simp) ?_
            refine AllReady.cons rfl (fun K hK => ?_) (AllReady.cons rfl (fun K hK => ?_) AllReady.nil)
            · go_simp
              refine hK _ _ ?_
              clear hK K
              refine wpAny_takeD (i := 15) (d := 26) (v := .pointer (some ⟨b, off + j * 2, none⟩)) rfl (by kernel_rfl) (by kernel_rfl) (by kernel_rfl) (fun _ _ _ h => h) (Or.inl ⟨by rfl, by intro w; go_simp⟩) rfl ?_
              simp only [Act.put, List.setIfInBounds_toArray, List.set_cons_zero, List.set_cons_succ]
              refine wpAny_takeD (i := 16) (d := 27) (v := .pointer (some ⟨b, off + j * 2, none⟩)) rfl (by kernel_rfl) (by kernel_rfl) (by kernel_rfl) (fun _ _ _ h => h) (Or.inl ⟨by rfl, by intro w; go_simp⟩) rfl ?_
              simp only [Act.put, List.setIfInBounds_toArray, List.set_cons_zero, List.set_cons_succ]
              refine wpAny_ready (rs := [17, 19]) (by kernel_rfl) (by simp) ?_
              refine AllReady.cons rfl (fun K hK => ?_) (AllReady.cons rfl (fun K hK => ?_) AllReady.nil)
              · go_simp
                refine hK _ _ ?_
                clear hK K
                refine wpAny_ready (rs := [19]) (by kernel_rfl) (by simp) ?_
                refine AllReady.cons rfl (fun K hK => ?_) AllReady.nil
                go_simp
                refine hK _ _ ?_
                clear hK K
                refine wpAny_takeD (i := 21) (d := 32) (v := .pointer (some ⟨b, off + k * 2, none⟩)) rfl (by kernel_rfl) (by kernel_rfl) (by kernel_rfl) (fun _ _ _ h => h) (Or.inl ⟨by rfl, by intro w; go_simp⟩) rfl ?_
                simp only [Act.put, List.setIfInBounds_toArray, List.set_cons_zero, List.set_cons_succ]
                refine wpAny_takeD (i := 22) (d := 33) (v := .pointer (some ⟨b, off + k * 2, none⟩)) rfl (by kernel_rfl) (by kernel_rfl) (by kernel_rfl) (fun _ _ _ h => h) (Or.inl ⟨by rfl, by intro w; go_simp⟩) rfl ?_
                simp only [Act.put, List.setIfInBounds_toArray, List.set_cons_zero, List.set_cons_succ]
                refine wpAny_ready (rs := [23]) (by kernel_rfl) (by simp) ?_
                refine AllReady.cons rfl (fun K hK => ?_) AllReady.nil
                go_simp
                refine hK _ _ ?_
                clear hK K
                refine wpAny_takeD (i := 24) (d := 35) (v := .bool true) rfl (by kernel_rfl) (by kernel_rfl) (by kernel_rfl) (fun _ _ _ h => h) (Or.inl ⟨by rfl, by intro w; go_simp⟩) rfl ?_
                simp only [Act.put, List.setIfInBounds_toArray, List.set_cons_zero, List.set_cons_succ]
                refine wpAny_takeD (i := 25) (d := 36) (v := .bool true) rfl (by kernel_rfl) (by kernel_rfl) (by kernel_rfl) (fun _ _ _ h => h) (Or.inl ⟨by rfl, by intro w; go_simp⟩) rfl ?_
                simp only [Act.put, List.setIfInBounds_toArray, List.set_cons_zero, List.set_cons_succ]
                refine wpAny_takeD (i := 26) (d := 37) (v := .bool true) rfl (by kernel_rfl) (by kernel_rfl) (by kernel_rfl) (fun _ _ _ h => h) (Or.inl ⟨by rfl, by intro w; go_simp⟩) rfl ?_
                simp only [Act.put, List.setIfInBounds_toArray, List.set_cons_zero, List.set_cons_succ]
                refine wpAny_done (by kernel_rfl) ?_ _
                go_wp2
                go_ret
                rw [HM.out]
                exact ⟨rfl, (below_step78 HB.out hb1)⟩
              · go_simp
                refine hK _ _ ?_
                clear hK K
                refine wpAny_takeD (i := 21) (d := 32) (v := .pointer (some ⟨b, off + k * 2, none⟩)) rfl (by kernel_rfl) (by kernel_rfl) (by kernel_rfl) (fun _ _ _ h => h) (Or.inl ⟨by rfl, by intro w; go_simp⟩) rfl ?_
                simp only [Act.put, List.setIfInBounds_toArray, List.set_cons_zero, List.set_cons_succ]
                refine wpAny_takeD (i := 22) (d := 33) (v := .pointer (some ⟨b, off + k * 2, none⟩)) rfl (by kernel_rfl) (by kernel_rfl) (by kernel_rfl) (fun _ _ _ h => h) (Or.inl ⟨by rfl, by intro w; go_simp⟩) rfl ?_
                simp only [Act.put, List.setIfInBounds_toArray, List.set_cons_zero, List.set_cons_succ]
                refine wpAny_ready (rs := [17, 23]) (by kernel_rfl) (by simp) ?_
                refine AllReady.cons rfl (fun K hK => ?_) (AllReady.cons rfl (fun K hK => ?_) AllReady.nil)
                · go_simp
                  refine hK _ _ ?_
                  clear hK K
                  refine wpAny_ready (rs := [23]) (by kernel_rfl) (by simp) ?_
                  refine AllReady.cons rfl (fun K hK => ?_) AllReady.nil
                  go_simp
                  refine hK _ _ ?_
                  clear hK K
                  refine wpAny_takeD (i := 24) (d := 35) (v := .bool true) rfl (by kernel_rfl) (by kernel_rfl) (by kernel_rfl) (fun _ _ _ h => h) (Or.inl ⟨by rfl, by intro w; go_simp⟩) rfl ?_
                  simp only [Act.put, List.setIfInBounds_toArray, List.set_cons_zero, List.set_cons_succ]
                  refine wpAny_takeD (i := 25) (d := 36) (v := .bool true) rfl (by kernel_rfl) (by kernel_rfl) (by kernel_rfl) (fun _ _ _ h => h) (Or.inl ⟨by rfl, by intro w; go_simp⟩) rfl ?_
                  simp only [Act.put, List.setIfInBounds_toArray, List.set_cons_zero, List.set_cons_succ]
                  refine wpAny_takeD (i := 26) (d := 37) (v := .bool true) rfl (by kernel_rfl) (by kernel_rfl) (by kernel_rfl) (fun _ _ _ h => h) (Or.inl ⟨by rfl, by intro w; go_simp⟩) rfl ?_
                  simp only [Act.put, List.setIfInBounds_toArray, List.set_cons_zero, List.set_cons_succ]
                  refine wpAny_done (by kernel_rfl) ?_ _
                  go_wp2
                  go_ret
                  rw [HM.out]
                  exact ⟨rfl, (below_step78 HB.out hb1)⟩
                · go_simp
                  refine hK _ _ ?_
                  clear hK K
                  refine wpAny_ready (rs := [17]) (by kernel_rfl) (by simp) ?_
                  refine AllReady.cons rfl (fun K hK => ?_) AllReady.nil
                  go_simp
                  refine hK _ _ ?_
                  clear hK K
                  refine wpAny_takeD (i := 24) (d := 35) (v := .bool true) rfl (by kernel_rfl) (by kernel_rfl) (by kernel_rfl) (fun _ _ _ h => h) (Or.inl ⟨by rfl, by intro w; go_simp⟩) rfl ?_
                  simp only [Act.put, List.setIfInBounds_toArray, List.set_cons_zero, List.set_cons_succ]
                  refine wpAny_takeD (i := 25) (d := 36) (v := .bool true) rfl (by kernel_rfl) (by kernel_rfl) (by kernel_rfl) (fun _ _ _ h => h) (Or.inl ⟨by rfl, by intro w; go_simp⟩) rfl ?_
                  simp only [Act.put, List.setIfInBounds_toArray, List.set_cons_zero, List.set_cons_succ]
                  refine wpAny_takeD (i := 26) (d := 37) (v := .bool true) rfl (by kernel_rfl) (by kernel_rfl) (by kernel_rfl) (fun _ _ _ h => h) (Or.inl ⟨by rfl, by intro w; go_simp⟩) rfl ?_
                  simp only [Act.put, List.setIfInBounds_toArray, List.set_cons_zero, List.set_cons_succ]
                  refine wpAny_done (by kernel_rfl) ?_ _
                  go_wp2
                  go_ret
                  rw [HM.out]
                  exact ⟨rfl, (below_step78 HB.out hb1)⟩
            · go_simp
              refine hK _ _ ?_
              clear hK K
              refine wpAny_takeD (i := 21) (d := 32) (v := .pointer (some ⟨b, off + k * 2, none⟩)) rfl (by kernel_rfl) (by kernel_rfl) (by kernel_rfl) (fun _ _ _ h => h) (Or.inl ⟨by rfl, by intro w; go_simp⟩) rfl ?_
              simp only [Act.put, List.setIfInBounds_toArray, List.set_cons_zero, List.set_cons_succ]
              refine wpAny_takeD (i := 22) (d := 33) (v := .pointer (some ⟨b, off + k * 2, none⟩)) rfl (by kernel_rfl) (by kernel_rfl) (by kernel_rfl) (fun _ _ _ h => h) (Or.inl ⟨by rfl, by intro w; go_simp⟩) rfl ?_
              simp only [Act.put, List.setIfInBounds_toArray, List.set_cons_zero, List.set_cons_succ]
              refine wpAny_ready (rs := [12, 23]) (by kernel_rfl) (by simp) ?_
              refine AllReady.cons rfl (fun K hK => ?_) (AllReady.cons rfl (fun K hK => ?_) AllReady.nil)
              · go_simp
                refine hK _ _ ?_
                clear hK K
                refine wpAny_takeD (i := 15) (d := 26) (v := .pointer (some ⟨b, off + j * 2, none⟩)) rfl (by kernel_rfl) (by kernel_rfl) (by kernel_rfl) (fun _ _ _ h => h) (Or.inl ⟨by rfl, by intro w; go_simp⟩) rfl ?_
                simp only [Act.put, List.setIfInBounds_toArray, List.set_cons_zero, List.set_cons_succ]
                refine wpAny_takeD (i := 16) (d := 27) (v := .pointer (some ⟨b, off + j * 2, none⟩)) rfl (by kernel_rfl) (by kernel_rfl) (by kernel_rfl) (fun _ _ _ h => h) (Or.inl ⟨by rfl, by intro w; go_simp⟩) rfl ?_
                simp only [Act.put, List.setIfInBounds_toArray, List.set_cons_zero, List.set_cons_succ]
                refine wpAny_ready (rs := [17, 23]) (by kernel_rfl) (by simp) ?_
                refine AllReady.cons rfl (fun K hK => ?_) (AllReady.cons rfl (fun K hK => ?_) AllReady.nil)
                · go_simp
                  refine hK _ _ ?_
                  clear hK K
                  refine wpAny_ready (rs := [23]) (by kernel_rfl) (by simp) ?_
                  refine AllReady.cons rfl (fun K hK => ?_) AllReady.nil
                  go_simp
                  refine hK _ _ ?_
                  clear hK K
                  refine wpAny_takeD (i := 24) (d := 35) (v := .bool true) rfl (by kernel_rfl) (by kernel_rfl) (by kernel_rfl) (fun _ _ _ h => h) (Or.inl ⟨by rfl, by intro w; go_simp⟩) rfl ?_
                  simp only [Act.put, List.setIfInBounds_toArray, List.set_cons_zero, List.set_cons_succ]
                  refine wpAny_takeD (i := 25) (d := 36) (v := .bool true) rfl (by kernel_rfl) (by kernel_rfl) (by kernel_rfl) (fun _ _ _ h => h) (Or.inl ⟨by rfl, by intro w; go_simp⟩) rfl ?_
                  simp only [Act.put, List.setIfInBounds_toArray, List.set_cons_zero, List.set_cons_succ]
                  refine wpAny_takeD (i := 26) (d := 37) (v := .bool true) rfl (by kernel_rfl) (by kernel_rfl) (by kernel_rfl) (fun _ _ _ h => h) (Or.inl ⟨by rfl, by intro w; go_simp⟩) rfl ?_
                  simp only [Act.put, List.setIfInBounds_toArray, List.set_cons_zero, List.set_cons_succ]
                  refine wpAny_done (by kernel_rfl) ?_ _
                  go_wp2
                  go_ret
                  rw [HM.out]
                  exact ⟨rfl, (below_step78 HB.out hb1)⟩
                · go_simp
                  refine hK _ _ ?_
                  clear hK K
                  refine wpAny_ready (rs := [17]) (by kernel_rfl) (by simp) ?_
                  refine AllReady.cons rfl (fun K hK => ?_) AllReady.nil
                  go_simp
                  refine hK _ _ ?_
                  clear hK K
                  refine wpAny_takeD (i := 24) (d := 35) (v := .bool true) rfl (by kernel_rfl) (by kernel_rfl) (by kernel_rfl) (fun _ _ _ h => h) (Or.inl ⟨by rfl, by intro w; go_simp⟩) rfl ?_
                  simp only [Act.put, List.setIfInBounds_toArray, List.set_cons_zero, List.set_cons_succ]
                  refine wpAny_takeD (i := 25) (d := 36) (v := .bool true) rfl (by kernel_rfl) (by kernel_rfl) (by kernel_rfl) (fun _ _ _ h => h) (Or.inl ⟨by rfl, by intro w; go_simp⟩) rfl ?_
                  simp only [Act.put, List.setIfInBounds_toArray, List.set_cons_zero, List.set_cons_succ]
                  refine wpAny_takeD (i := 26) (d := 37) (v := .bool true) rfl (by kernel_rfl) (by kernel_rfl) (by kernel_rfl) (fun _ _ _ h => h) (Or.inl ⟨by rfl, by intro w; go_simp⟩) rfl ?_
                  simp only [Act.put, List.setIfInBounds_toArray, List.set_cons_zero, List.set_cons_succ]
                  refine wpAny_done (by kernel_rfl) ?_ _
                  go_wp2
                  go_ret
                  rw [HM.out]
                  exact ⟨rfl, (below_step78 HB.out hb1)⟩
              · go_simp
                refine hK _ _ ?_
                clear hK K
                refine wpAny_ready (rs := [12]) (by kernel_rfl) (by simp) ?_
                refine AllReady.cons rfl (fun K hK => ?_) AllReady.nil
                go_simp
                refine hK _ _ ?_
                clear hK K
                refine wpAny_takeD (i := 15) (d := 26) (v := .pointer (some ⟨b, off + j * 2, none⟩)) rfl (by kernel_rfl) (by kernel_rfl) (by kernel_rfl) (fun _ _ _ h => h) (Or.inl ⟨by rfl, by intro w; go_simp⟩) rfl ?_
                simp only [Act.put, List.setIfInBounds_toArray, List.set_cons_zero, List.set_cons_succ]
                refine wpAny_takeD (i := 16) (d := 27) (v := .pointer (some ⟨b, off + j * 2, none⟩)) rfl (by kernel_rfl) (by kernel_rfl) (by kernel_rfl) (fun _ _ _ h => h) (Or.inl ⟨by rfl, by intro w; go_simp⟩) rfl ?_
                simp only [Act.put, List.setIfInBounds_toArray, List.set_cons_zero, List.set_cons_succ]
                refine wpAny_ready (rs := [17]) (by kernel_rfl) (by simp) ?_
                refine AllReady.cons rfl (fun K hK => ?_) AllReady.nil
                go_simp
                refine hK _ _ ?_
                clear hK K
                refine wpAny_takeD (i := 24) (d := 35) (v := .bool true) rfl (by kernel_rfl) (by kernel_rfl) (by kernel_rfl) (fun _ _ _ h => h) (Or.inl ⟨by rfl, by intro w; go_simp⟩) rfl ?_
                simp only [Act.put, List.setIfInBounds_toArray, List.set_cons_zero, List.set_cons_succ]
                refine wpAny_takeD (i := 25) (d := 36) (v := .bool true) rfl (by kernel_rfl) (by kernel_rfl) (by kernel_rfl) (fun _ _ _ h => h) (Or.inl ⟨by rfl, by intro w; go_simp⟩) rfl ?_
                simp only [Act.put, List.setIfInBounds_toArray, List.set_cons_zero, List.set_cons_succ]
                refine wpAny_takeD (i := 26) (d := 37) (v := .bool true) rfl (by kernel_rfl) (by kernel_rfl) (by kernel_rfl) (fun _ _ _ h => h) (Or.inl ⟨by rfl, by intro w; go_simp⟩) rfl ?_
                simp only [Act.put, List.setIfInBounds_toArray, List.set_cons_zero, List.set_cons_succ]
                refine wpAny_done (by kernel_rfl) ?_ _
                go_wp2
                go_ret
                rw [HM.out]
                exact ⟨rfl, (below_step78 HB.out hb1)⟩
          | true =>
            have HM : Hid (entAt es k = true) := by show entAt es k = true; rw [HJ.out, entAt_succ HP.out HX'.out, hok, hcmp]; rfl
            go_wp2_with fail
            refine wp_region_any (by kernel_rfl) ?_
            change wpAny _ _ _ _ _ _ _ (World.drew _)
            refine wpAny_takeD (i := 0) (d := 11) (v := .pointer (some ⟨w.heap.size, 1, none⟩)) rfl (by kernel_rfl) (by kernel_rfl) (by kernel_rfl) (fun _ _ _ h => h) (Or.inl ⟨by rfl, by intro w; go_simp⟩) rfl ?_
            simp only [Act.put, List.setIfInBounds_toArray, List.set_cons_zero, List.set_cons_succ]
            refine wpAny_takeD (i := 2) (d := 13) (v := .int .i64 k) rfl (by kernel_rfl) (by kernel_rfl) (by kernel_rfl) (fun _ _ _ h => h) (Or.inl ⟨by rfl, by intro w; go_simp⟩) rfl ?_
            simp only [Act.put, List.setIfInBounds_toArray, List.set_cons_zero, List.set_cons_succ]
            refine wpAny_ready (rs := [1]) (by kernel_rfl) (by simp) ?_
            refine AllReady.cons rfl (fun K hK => ?_) AllReady.nil
            go_simp
            refine hK _ _ ?_
            clear hK K
            refine wpAny_takeD (i := 3) (d := 14) (v := .pointer (some ⟨b, off + k * 2, none⟩)) rfl (by kernel_rfl) (by kernel_rfl) (by kernel_rfl) (fun _ _ _ h => h) (Or.inl ⟨by rfl, by intro w; go_simp⟩) rfl ?_
            simp only [Act.put, List.setIfInBounds_toArray, List.set_cons_zero, List.set_cons_succ]
            refine wpAny_ready (rs := [4]) (by kernel_rfl) (by simp) ?_
            refine AllReady.cons rfl (fun K hK => ?_) AllReady.nil
            go_simp
            refine hK _ _ ?_
            clear hK K
            refine wpAny_ready (rs := [5]) (by kernel_rfl) (by simp) ?_
            refine AllReady.cons rfl (fun K hK => ?_) AllReady.nil
            go_simp
            refine (l2Entry_any s f _ HF1.out HF2.out).mono ?_
            rintro e w1 ⟨rfl, hb1⟩
            rw [hok]
            have s0 := (hb1.cell (p := ⟨w.heap.size, 1, none⟩) m4).trans (show _ = some (Value.slice (some ⟨b, off, none⟩) es.length cap) by simp [go_sem, m1])
            have s1 := (hb1.cell (p := ⟨b, off + k * 2, none⟩) hbl).trans (show _ = some (Value.string s) by simp [go_sem, e0])
            have s3 := (hb1.cell (p := ⟨b, off + j * 2, none⟩) hbl).trans (show _ = some (Value.string q) by simp [go_sem, e3])
            have hz1 : w.heap.size < w1.heap.size := Nat.lt_of_lt_of_le m4 hb1.size
            have hz2 : b < w1.heap.size := Nat.lt_of_lt_of_le hbl hb1.size
            refine hK _ _ ?_
            clear hK K
            refine wpAny_takeD (i := 6) (d := 17) (v := .bool false) rfl (by kernel_rfl) (by kernel_rfl) (by kernel_rfl) (fun _ _ _ h => h) (Or.inl ⟨by rfl, by intro w; go_simp⟩) rfl ?_
            simp only [Act.put, List.setIfInBounds_toArray, List.set_cons_zero, List.set_cons_succ]
            refine wpAny_takeD (i := 7) (d := 18) (v := .bool false) rfl (by kernel_rfl) (by kernel_rfl) (by kernel_rfl) (fun _ _ _ h => h) (Or.inl ⟨by rfl, by intro w; go_simp⟩) rfl ?_
            simp only [Act.put, List.setIfInBounds_toArray, List.set_cons_zero, List.set_cons_succ]
            refine wpAny_takeD (i := 8) (d := 19) (v := .int .i64 k) rfl (by kernel_rfl) (by kernel_rfl) (by kernel_rfl) (fun _ _ _ h => h) (Or.inl ⟨by rfl, by intro w; go_simp⟩) rfl ?_
            simp only [Act.put, List.setIfInBounds_toArray, List.set_cons_zero, List.set_cons_succ]
            refine wpAny_takeD (i := 9) (d := 20) (v := .bool true) rfl (by kernel_rfl) (by kernel_rfl) (by kernel_rfl) (fun _ _ _ h => h) (Or.inl ⟨by rfl, by intro w; go_simp⟩) rfl ?_
            simp only [Act.put, List.setIfInBounds_toArray, List.set_cons_zero, List.set_cons_succ]
            refine wpAny_takeD (i := 10) (d := 21) (v := .bool true) rfl (by kernel_rfl) (by kernel_rfl) (by kernel_rfl) (fun _ _ _ h => h) (Or.inl ⟨by rfl, by intro w; go_simp⟩) rfl ?_
            simp only [Act.put, List.setIfInBounds_toArray, List.set_cons_zero, List.set_cons_succ]
            refine wpAny_takeD (i := 11) (d := 22) (v := .pointer (some ⟨w.heap.size, 1, none⟩)) rfl (by kernel_rfl) (by kernel_rfl) (by kernel_rfl) (fun _ _ _ h => h) (Or.inl ⟨by rfl, by intro w; go_simp⟩) rfl ?_
            simp only [Act.put, List.setIfInBounds_toArray, List.set_cons_zero, List.set_cons_succ]
            refine wpAny_takeD (i := 13) (d := 24) (v := .int .i64 k) rfl (by kernel_rfl) (by kernel_rfl) (by kernel_rfl) (fun _ _ _ h => h) (Or.inl ⟨by rfl, by intro w; go_simp⟩) rfl ?_
            simp only [Act.put, List.setIfInBounds_toArray, List.set_cons_zero, List.set_cons_succ]
            refine wpAny_takeD (i := 14) (d := 25) (v := .int .i64 j) rfl (by kernel_rfl) (by kernel_rfl) (by kernel_rfl) (fun _ _ _ h => h) (Or.inl ⟨by rfl, by intro w; go_simp⟩) rfl ?_
            simp only [Act.put, List.setIfInBounds_toArray, List.set_cons_zero, List.set_cons_succ]
            refine wpAny_takeD (i := 18) (d := 29) (v := .pointer (some ⟨w.heap.size, 1, none⟩)) rfl (by kernel_rfl) (by kernel_rfl) (by kernel_rfl) (fun _ _ _ h => h) (Or.inl ⟨by rfl, by intro w; go_simp⟩) rfl ?_
            simp only [Act.put, List.setIfInBounds_toArray, List.set_cons_zero, List.set_cons_succ]
            refine wpAny_takeD (i := 20) (d := 31) (v := .int .i64 k) rfl (by kernel_rfl) (by kernel_rfl) (by kernel_rfl) (fun _ _ _ h => h) (Or.inl ⟨by rfl, by intro w; go_simp⟩) rfl ?_
            simp only [Act.put, List.setIfInBounds_toArray, List.set_cons_zero, List.set_cons_succ]
            refine wpAny_ready (rs := [12, 19]) (by kernel_rfl) (by simp) ?_
            refine AllReady.cons rfl (fun K hK => ?_) (AllReady.cons rfl (fun K hK => ?_) AllReady.nil)
            · go_simp
              refine hK _ _ ?_
              clear hK K
              refine wpAny_takeD (i := 15) (d := 26) (v := .pointer (some ⟨b, off + j * 2, none⟩)) rfl (by kernel_rfl) (by kernel_rfl) (by kernel_rfl) (fun _ _ _ h => h) (Or.inl ⟨by rfl, by intro w; go_simp⟩) rfl ?_
              simp only [Act.put, List.setIfInBounds_toArray, List.set_cons_zero, List.set_cons_succ]
              refine wpAny_takeD (i := 16) (d := 27) (v := .pointer (some ⟨b, off + j * 2, none⟩)) rfl (by kernel_rfl) (by kernel_rfl) (by kernel_rfl) (fun _ _ _ h => h) (Or.inl ⟨by rfl, by intro w; go_simp⟩) rfl ?_
              simp only [Act.put, List.setIfInBounds_toArray, List.set_cons_zero, List.set_cons_succ]
              refine wpAny_ready (rs := [17, 19]) (by kernel_rfl) (by simp) ?_
              refine AllReady.cons rfl (fun K hK => ?_) (AllReady.cons rfl (fun K hK => ?_) AllReady.nil)
              · go_simp
                refine hK _ _ ?_
                clear hK K
                refine wpAny_ready (rs := [19]) (by kernel_rfl) (by simp) ?_
                refine AllReady.cons rfl (fun K hK => ?_) AllReady.nil
                go_simp
                refine hK _ _ ?_
                clear hK K
                refine wpAny_takeD (i := 21) (d := 32) (v := .pointer (some ⟨b, off + k * 2, none⟩)) rfl (by kernel_rfl) (by kernel_rfl) (by kernel_rfl) (fun _ _ _ h => h) (Or.inl ⟨by rfl, by intro w; go_simp⟩) rfl ?_
                simp only [Act.put, List.setIfInBounds_toArray, List.set_cons_zero, List.set_cons_succ]
                refine wpAny_takeD (i := 22) (d := 33) (v := .pointer (some ⟨b, off + k * 2, none⟩)) rfl (by kernel_rfl) (by kernel_rfl) (by kernel_rfl) (fun _ _ _ h => h) (Or.inl ⟨by rfl, by intro w; go_simp⟩) rfl ?_
                simp only [Act.put, List.setIfInBounds_toArray, List.set_cons_zero, List.set_cons_succ]
                refine wpAny_ready (rs := [23]) (by kernel_rfl) (by simp) ?_
                refine AllReady.cons rfl (fun K hK => ?_) AllReady.nil
                go_simp
                refine hK _ _ ?_
                clear hK K
                refine wpAny_takeD (i := 24) (d := 35) (v := .bool false) rfl (by kernel_rfl) (by kernel_rfl) (by kernel_rfl) (fun _ _ _ h => h) (Or.inl ⟨by rfl, by intro w; go_simp⟩) rfl ?_
                simp only [Act.put, List.setIfInBounds_toArray, List.set_cons_zero, List.set_cons_succ]
                refine wpAny_takeD (i := 25) (d := 36) (v := .bool false) rfl (by kernel_rfl) (by kernel_rfl) (by kernel_rfl) (fun _ _ _ h => h) (Or.inl ⟨by rfl, by intro w; go_simp⟩) rfl ?_
                simp only [Act.put, List.setIfInBounds_toArray, List.set_cons_zero, List.set_cons_succ]
                refine wpAny_takeD (i := 26) (d := 37) (v := .bool false) rfl (by kernel_rfl) (by kernel_rfl) (by kernel_rfl) (fun _ _ _ h => h) (Or.inl ⟨by rfl, by intro w; go_simp⟩) rfl ?_
                simp only [Act.put, List.setIfInBounds_toArray, List.set_cons_zero, List.set_cons_succ]
                refine wpAny_done (by kernel_rfl) ?_ _
                have n1 := (hb1.cell (p := ⟨w.heap.size, 0, none⟩) m4).trans (show _ = some (Value.slice a0 xs.length cap0) by simp [go_sem, m0])
                have n2 := (hb1.cell (p := ⟨w.heap.size, 1, none⟩) m4).trans (show _ = some (Value.slice (some ⟨b, off, none⟩) es.length cap) by simp [go_sem, m1])
                go_wp2
                go_roundw
                case rel => exact ⟨k + 1, by omega, by go_num, HN.out HM.out, n1, n2, Nat.lt_of_lt_of_le m4 hb1.size, (below_step78 HB.out hb1)⟩
                case measure => simp [intOf]; omega
              · go_simp
                refine hK _ _ ?_
                clear hK K
                refine wpAny_takeD (i := 21) (d := 32) (v := .pointer (some ⟨b, off + k * 2, none⟩)) rfl (by kernel_rfl) (by kernel_rfl) (by kernel_rfl) (fun _ _ _ h => h) (Or.inl ⟨by rfl, by intro w; go_simp⟩) rfl ?_
                simp only [Act.put, List.setIfInBounds_toArray, List.set_cons_zero, List.set_cons_succ]
                refine wpAny_takeD (i := 22) (d := 33) (v := .pointer (some ⟨b, off + k * 2, none⟩)) rfl (by kernel_rfl) (by kernel_rfl) (by kernel_rfl) (fun _ _ _ h => h) (Or.inl ⟨by rfl, by intro w; go_simp⟩) rfl ?_
                simp only [Act.put, List.setIfInBounds_toArray, List.set_cons_zero, List.set_cons_succ]
                refine wpAny_ready (rs := [17, 23]) (by kernel_rfl) (by simp) ?_
                refine AllReady.cons rfl (fun K hK => ?_) (AllReady.cons rfl (fun K hK => ?_) AllReady.nil)
                · go_simp
                  refine hK _ _ ?_
                  clear hK K
                  refine wpAny_ready (rs := [23]) (by kernel_rfl) (by simp) ?_
                  refine AllReady.cons rfl (fun K hK => ?_) AllReady.nil
                  go_simp
                  refine hK _ _ ?_
                  clear hK K
                  refine wpAny_takeD (i := 24) (d := 35) (v := .bool false) rfl (by kernel_rfl) (by kernel_rfl) (by kernel_rfl) (fun _ _ _ h => h) (Or.inl ⟨by rfl, by intro w; go_simp⟩) rfl ?_
                  simp only [Act.put, List.setIfInBounds_toArray, List.set_cons_zero, List.set_cons_succ]
                  refine wpAny_takeD (i := 25) (d := 36) (v := .bool false) rfl (by kernel_rfl) (by kernel_rfl) (by kernel_rfl) (fun _ _ _ h => h) (Or.inl ⟨by rfl, by intro w; go_simp⟩) rfl ?_
                  simp only [Act.put, List.setIfInBounds_toArray, List.set_cons_zero, List.set_cons_succ]
                  refine wpAny_takeD (i := 26) (d := 37) (v := .bool false) rfl (by kernel_rfl) (by kernel_rfl) (by kernel_rfl) (fun _ _ _ h => h) (Or.inl ⟨by rfl, by intro w; go_simp⟩) rfl ?_
                  simp only [Act.put, List.setIfInBounds_toArray, List.set_cons_zero, List.set_cons_succ]
                  refine wpAny_done (by kernel_rfl) ?_ _
                  have n1 := (hb1.cell (p := ⟨w.heap.size, 0, none⟩) m4).trans (show _ = some (Value.slice a0 xs.length cap0) by simp [go_sem, m0])
                  have n2 := (hb1.cell (p := ⟨w.heap.size, 1, none⟩) m4).trans (show _ = some (Value.slice (some ⟨b, off, none⟩) es.length cap) by simp [go_sem, m1])
                  go_wp2
                  go_roundw
                  case rel => exact ⟨k + 1, by omega, by go_num, HN.out HM.out, n1, n2, Nat.lt_of_lt_of_le m4 hb1.size, (below_step78 HB.out hb1)⟩
                  case measure => simp [intOf]; omega
                · go_simp
                  refine hK _ _ ?_
                  clear hK K
                  refine wpAny_ready (rs := [17]) (by kernel_rfl) (by simp) ?_
                  refine AllReady.cons rfl (fun K hK => ?_) AllReady.nil
                  go_simp
                  refine hK _ _ ?_
                  clear hK K
                  refine wpAny_takeD (i := 24) (d := 35) (v := .bool false) rfl (by kernel_rfl) (by kernel_rfl) (by kernel_rfl) (fun _ _ _ h => h) (Or.inl ⟨by rfl, by intro w; go_simp⟩) rfl ?_
                  simp only [Act.put, List.setIfInBounds_toArray, List.set_cons_zero, List.set_cons_succ]
                  refine wpAny_takeD (i := 25) (d := 36) (v := .bool false) rfl (by kernel_rfl) (by kernel_rfl) (by kernel_rfl) (fun _ _ _ h => h) (Or.inl ⟨by rfl, by intro w; go_simp⟩) rfl ?_
                  simp only [Act.put, List.setIfInBounds_toArray, List.set_cons_zero, List.set_cons_succ]
                  refine wpAny_takeD (i := 26) (d := 37) (v := .bool false) rfl (by kernel_rfl) (by kernel_rfl) (by kernel_rfl) (fun _ _ _ h => h) (Or.inl ⟨by rfl, by intro w; go_simp⟩) rfl ?_
                  simp only [Act.put, List.setIfInBounds_toArray, List.set_cons_zero, List.set_cons_succ]
                  refine wpAny_done (by kernel_rfl) ?_ _
                  have n1 := (hb1.cell (p := ⟨w.heap.size, 0, none⟩) m4).trans (show _ = some (Value.slice a0 xs.length cap0) by simp [go_sem, m0])
                  have n2 := (hb1.cell (p := ⟨w.heap.size, 1, none⟩) m4).trans (show _ = some (Value.slice (some ⟨b, off, none⟩) es.length cap) by simp [go_sem, m1])
                  go_wp2
                  go_roundw
                  case rel => exact ⟨k + 1, by omega, by go_num, HN.out HM.out, n1, n2, Nat.lt_of_lt_of_le m4 hb1.size, (below_step78 HB.out hb1)⟩
                  case measure => simp [intOf]; omega
            · go_simp
              refine hK _ _ ?_
              clear hK K
              refine wpAny_takeD (i := 21) (d := 32) (v := .pointer (some ⟨b, off + k * 2, none⟩)) rfl (by kernel_rfl) (by kernel_rfl) (by kernel_rfl) (fun _ _ _ h => h) (Or.inl ⟨by rfl, by intro w; go_simp⟩) rfl ?_
              simp only [Act.put, List.setIfInBounds_toArray, List.set_cons_zero, List.set_cons_succ]
              refine wpAny_takeD (i := 22) (d := 33) (v := .pointer (some ⟨b, off + k * 2, none⟩)) rfl (by kernel_rfl) (by kernel_rfl) (by kernel_rfl) (fun _ _ _ h => h) (Or.inl ⟨by rfl, by intro w; go_simp⟩) rfl ?_
              simp only [Act.put, List.setIfInBounds_toArray, List.set_cons_zero, List.set_cons_succ]
              refine wpAny_ready (rs := [12, 23]) (by kernel_rfl) (by simp) ?_
              refine AllReady.cons rfl (fun K hK => ?_) (AllReady.cons rfl (fun K hK => ?_) AllReady.nil)
              · go_simp
                refine hK _ _ ?_
                clear hK K
                refine wpAny_takeD (i := 15) (d := 26) (v := .pointer (some ⟨b, off + j * 2, none⟩)) rfl (by kernel_rfl) (by kernel_rfl) (by kernel_rfl) (fun _ _ _ h => h) (Or.inl ⟨by rfl, by intro w; go_simp⟩) rfl ?_
                simp only [Act.put, List.setIfInBounds_toArray, List.set_cons_zero, List.set_cons_succ]
                refine wpAny_takeD (i := 16) (d := 27) (v := .pointer (some ⟨b, off + j * 2, none⟩)) rfl (by kernel_rfl) (by kernel_rfl) (by kernel_rfl) (fun _ _ _ h => h) (Or.inl ⟨by rfl, by intro w; go_simp⟩) rfl ?_
                simp only [Act.put, List.setIfInBounds_toArray, List.set_cons_zero, List.set_cons_succ]
                refine wpAny_ready (rs := [17, 23]) (by kernel_rfl) (by simp) ?_
                refine AllReady.cons rfl (fun K hK => ?_) (AllReady.cons rfl (fun K hK => ?_) AllReady.nil)
                · go_simp
                  refine hK _ _ ?_
                  clear hK K
                  refine wpAny_ready (rs := [23]) (by kernel_rfl) (by simp) ?_
                  refine AllReady.cons rfl (fun K hK => ?_) AllReady.nil
                  go_simp
                  refine hK _ _ ?_
                  clear hK K
                  refine wpAny_takeD (i := 24) (d := 35) (v := .bool false) rfl (by kernel_rfl) (by kernel_rfl) (by kernel_rfl) (fun _ _ _ h => h) (Or.inl ⟨by rfl, by intro w; go_simp⟩) rfl ?_
                  simp only [Act.put, List.setIfInBounds_toArray, List.set_cons_zero, List.set_cons_succ]
                  refine wpAny_takeD (i := 25) (d := 36) (v := .bool false) rfl (by kernel_rfl) (by kernel_rfl) (by kernel_rfl) (fun _ _ _ h => h) (Or.inl ⟨by rfl, by intro w; go_simp⟩) rfl ?_
                  simp only [Act.put, List.setIfInBounds_toArray, List.set_cons_zero, List.set_cons_succ]
                  refine wpAny_takeD (i := 26) (d := 37) (v := .bool false) rfl (by kernel_rfl) (by kernel_rfl) (by kernel_rfl) (fun _ _ _ h => h) (Or.inl ⟨by rfl, by intro w; go_simp⟩) rfl ?_
                  simp only [Act.put, List.setIfInBounds_toArray, List.set_cons_zero, List.set_cons_succ]
                  refine wpAny_done (by kernel_rfl) ?_ _
                  have n1 := (hb1.cell (p := ⟨w.heap.size, 0, none⟩) m4).trans (show _ = some (Value.slice a0 xs.length cap0) by simp [go_sem, m0])
                  have n2 := (hb1.cell (p := ⟨w.heap.size, 1, none⟩) m4).trans (show _ = some (Value.slice (some ⟨b, off, none⟩) es.length cap) by simp [go_sem, m1])
                  go_wp2
                  go_roundw
                  case rel => exact ⟨k + 1, by omega, by go_num, HN.out HM.out, n1, n2, Nat.lt_of_lt_of_le m4 hb1.size, (below_step78 HB.out hb1)⟩
                  case measure => simp [intOf]; omega
                · go_simp
                  refine hK _ _ ?_
                  clear hK K
                  refine wpAny_ready (rs := [17]) (by kernel_rfl) (by simp) ?_
                  refine AllReady.cons rfl (fun K hK => ?_) AllReady.nil
                  go_simp
                  refine hK _ _ ?_
                  clear hK K
                  refine wpAny_takeD (i := 24) (d := 35) (v := .bool false) rfl (by kernel_rfl) (by kernel_rfl) (by kernel_rfl) (fun _ _ _ h => h) (Or.inl ⟨by rfl, by intro w; go_simp⟩) rfl ?_
                  simp only [Act.put, List.setIfInBounds_toArray, List.set_cons_zero, List.set_cons_succ]
                  refine wpAny_takeD (i := 25) (d := 36) (v := .bool false) rfl (by kernel_rfl) (by kernel_rfl) (by kernel_rfl) (fun _ _ _ h => h) (Or.inl ⟨by rfl, by intro w; go_simp⟩) rfl ?_
                  simp only [Act.put, List.setIfInBounds_toArray, List.set_cons_zero, List.set_cons_succ]
                  refine wpAny_takeD (i := 26) (d := 37) (v := .bool false) rfl (by kernel_rfl) (by kernel_rfl) (by kernel_rfl) (fun _ _ _ h => h) (Or.inl ⟨by rfl, by intro w; go_simp⟩) rfl ?_
                  simp only [Act.put, List.setIfInBounds_toArray, List.set_cons_zero, List.set_cons_succ]
                  refine wpAny_done (by kernel_rfl) ?_ _
                  have n1 := (hb1.cell (p := ⟨w.heap.size, 0, none⟩) m4).trans (show _ = some (Value.slice a0 xs.length cap0) by simp [go_sem, m0])
                  have n2 := (hb1.cell (p := ⟨w.heap.size, 1, none⟩) m4).trans (show _ = some (Value.slice (some ⟨b, off, none⟩) es.length cap) by simp [go_sem, m1])
                  go_wp2
                  go_roundw
                  case rel => exact ⟨k + 1, by omega, by go_num, HN.out HM.out, n1, n2, Nat.lt_of_lt_of_le m4 hb1.size, (below_step78 HB.out hb1)⟩
                  case measure => simp [intOf]; omega
              · go_simp
                refine hK _ _ ?_
                clear hK K
                refine wpAny_ready (rs := [12]) (by kernel_rfl) (by simp) ?_
                refine AllReady.cons rfl (fun K hK => ?_) AllReady.nil
                go_simp
                refine hK _ _ ?_
                clear hK K
                refine wpAny_takeD (i := 15) (d := 26) (v := .pointer (some ⟨b, off + j * 2, none⟩)) rfl (by kernel_rfl) (by kernel_rfl) (by kernel_rfl) (fun _ _ _ h => h) (Or.inl ⟨by rfl, by intro w; go_simp⟩) rfl ?_
                simp only [Act.put, List.setIfInBounds_toArray, List.set_cons_zero, List.set_cons_succ]
                refine wpAny_takeD (i := 16) (d := 27) (v := .pointer (some ⟨b, off + j * 2, none⟩)) rfl (by kernel_rfl) (by kernel_rfl) (by kernel_rfl) (fun _ _ _ h => h) (Or.inl ⟨by rfl, by intro w; go_simp⟩) rfl ?_
                simp only [Act.put, List.setIfInBounds_toArray, List.set_cons_zero, List.set_cons_succ]
                refine wpAny_ready (rs := [17]) (by kernel_rfl) (by simp) ?_
                refine AllReady.cons rfl (fun K hK => ?_) AllReady.nil
                go_simp
                refine hK _ _ ?_
                clear hK K
                refine wpAny_takeD (i := 24) (d := 35) (v := .bool false) rfl (by kernel_rfl) (by kernel_rfl) (by kernel_rfl) (fun _ _ _ h => h) (Or.inl ⟨by rfl, by intro w; go_simp⟩) rfl ?_
                simp only [Act.put, List.setIfInBounds_toArray, List.set_cons_zero, List.set_cons_succ]
                refine wpAny_takeD (i := 25) (d := 36) (v := .bool false) rfl (by kernel_rfl) (by kernel_rfl) (by kernel_rfl) (fun _ _ _ h => h) (Or.inl ⟨by rfl, by intro w; go_simp⟩) rfl ?_
                simp only [Act.put, List.setIfInBounds_toArray, List.set_cons_zero, List.set_cons_succ]
                refine wpAny_takeD (i := 26) (d := 37) (v := .bool false) rfl (by kernel_rfl) (by kernel_rfl) (by kernel_rfl) (fun _ _ _ h => h) (Or.inl ⟨by rfl, by intro w; go_simp⟩) rfl ?_
                simp only [Act.put, List.setIfInBounds_toArray, List.set_cons_zero, List.set_cons_succ]
                refine wpAny_done (by kernel_rfl) ?_ _
                have n1 := (hb1.cell (p := ⟨w.heap.size, 0, none⟩) m4).trans (show _ = some (Value.slice a0 xs.length cap0) by simp [go_sem, m0])
                have n2 := (hb1.cell (p := ⟨w.heap.size, 1, none⟩) m4).trans (show _ = some (Value.slice (some ⟨b, off, none⟩) es.length cap) by simp [go_sem, m1])
                go_wp2
                go_roundw
                case rel => exact ⟨k + 1, by omega, by go_num, HN.out HM.out, n1, n2, Nat.lt_of_lt_of_le m4 hb1.size, (below_step78 HB.out hb1)⟩
                case measure => simp [intOf]; omega
    · have HE : Hid (entsT es = decide (es.length ≤ 24)) := entsT_good (fun i hi => HA.out i (by omega))
      go_wp2_with fail
      refine (l2Affixes_any _ _ xs (HAF.out.below HB.out)).mono ?_
      rintro e w1 ⟨rfl, hb1⟩
      have HB1 : Hid (Below w.heap.size w w1) := HB.out.trans (hb1.mono HB.out.size)
      have n2 := (hb1.cell (p := ⟨w.heap.size, 1, none⟩) m4).trans m1
      have hz1 : w.heap.size < w1.heap.size := Nat.lt_of_lt_of_le m4 hb1.size
      clear hb1
      cases hok : affsT xs with
      | false =>
        have HM : Hid (bookT xs es = false) := by show bookT xs es = false; simp [bookT, hok]
        go_wp2
        go_ret
        rw [HM.out]
        exact ⟨rfl, HB1.out⟩
      | true =>
        by_cases h8 : es.length ≤ 24
        · have h8' : (es.length : Int) ≤ 24 := by omega
          have HM : Hid (bookT xs es = true) := by show bookT xs es = true; unfold bookT; rw [hok, HE.out]; simpa using h8
          go_wp2
          go_ret
          rw [HM.out]
          exact ⟨rfl, HB1.out⟩
        · have h8' : ¬ (es.length : Int) ≤ 24 := by omega
          have d8 : decide ((es.length : Int) ≤ 24) = false := by simpa using h8'
          have HM : Hid (bookT xs es = false) := by show bookT xs es = false; unfold bookT; rw [hok, HE.out]; simpa using h8
          go_wp2
          go_ret
          rw [HM.out]
          exact ⟨rfl, HB1.out⟩
end Go.Proofs.YthedglgljehmgaaGreatDoor
