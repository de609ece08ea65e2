/-
  Texts that a law is given: opened, their size, a copy of them.
-/
import Derived.Test.YtcdgikhkjpneiaaGreatDoorW71
import Derived.Test.YtcdgikhkjpneiaaGreatDoorGW78
import Derived.Test.YtcdgikhkjpneiaaGreatDoorGW92
import Derived.Test.YtcdgikhkjpneiaaGreatDoorGW2
namespace Go.Proofs.YtcdgikhkjpneiaaGreatDoor
open Go.ChangeShapes Go.WideShapes Go.ChangeAt Go.RowKit
set_option linter.unusedVariables false
theorem TextsAt.fit {w : World} {v : Value} {xs : List ByteArray} (h : TextsAt w v xs) : ∀ (i : Nat) (x : ByteArray), xs[i]? = some x → x.size ≤ maxLen := by
  obtain ⟨a, cap, hv, hc, hm, hf, hh⟩ := h
  exact hf
set_option maxRecDepth 100000 in
theorem open_texts {H : Type} {enc : TypeId × Value → H} {w : World} {base : Nat} {spare : Nat → Bool} {held : Bool} {fuel : Nat} {v : Value} {x : DataW H × List MemPlace}
    (h : DataW.trod enc Tryz.prog w base spare held fuel 27 [v] = some x) : ∃ xs, TextsAt w v xs := by
  rcases Go.Deep.open_slice1 Tryz.underlying27 (by kernel_rfl) h with ⟨h0, _⟩ | ⟨a, len, cap, m, n, V, D, Pl, hcs, hb, hl, hm, hmm, _, hall⟩
  · simp at h0; subst h0
    exact ⟨[], none, 0, rfl, Nat.le_refl _, Nat.zero_le _, fun i x hx => by simp at hx, fun hn => absurd rfl hn⟩
  · simp at hcs; subst hcs
    have hlm : len ≤ m := by rw [hmm]; split <;> omega
    obtain ⟨q, hq⟩ := Go.Deep.choose_lt (α := ByteArray) (n := len) (p := fun i e => w.cell? (a.add i) = some (.string e) ∧ e.size ≤ maxLen) (fun i hi => by
      obtain ⟨c0, t0⟩ := hall i (by omega)
      obtain ⟨z0, e0, -, l0⟩ := DataW.trod_string Tryz.underlying9 t0
      simp only [List.cons.injEq, and_true] at e0
      exact ⟨z0, by rw [c0, e0], l0⟩)
    refine ⟨(List.range len).map q, some a, cap, by simp, by simpa using hl, by simpa using Nat.le_trans hl hm, fun i x hx => ?_, fun hn => ?_⟩
    · obtain ⟨hi, rfl⟩ := range_map_at71 hx
      exact (hq i hi).2
    have hpos : 0 < len := by
      rcases Nat.eq_zero_or_pos len with h0 | h0
      · subst h0; simp at hn
      · exact h0
    have c0 := (hq 0 hpos).1
    have ha : a.add 0 = a := by simp [Addr.add]
    rw [ha] at c0
    obtain ⟨hlt, hs⟩ := cell_lt71 c0
    obtain ⟨b, off, sp⟩ := a
    simp only at hs hlt
    subst hs
    refine ⟨b, off, rfl, hlt, fun i e he => ?_⟩
    obtain ⟨hi, rfl⟩ := range_map_at71 he
    have := (hq i hi).1
    rwa [add_at71] at this
set_option maxHeartbeats 1000000 in
theorem szStringS_any (w : World) (v : Value) (xs : List ByteArray) (left : Int) (h : TextsAt w v xs) (h0 : 0 ≤ left) (h1 : left ≤ 1048576) :
    Calls Tryz.prog 91 #[v, .int .i64 left] w fun e w' => (∃ r : Int, e = .returned (.int .i64 r) ∧ r ≤ left ∧ (0 ≤ r → xs.length ≤ 1048576)) ∧ Below w.heap.size w w' := by
  obtain ⟨a, cap, rfl, hc, hm⟩ := h.form
  have HS : Hid (TextsAt w (.slice a xs.length cap) xs) := h
  clear h
  unfold maxLen at hm
  by_cases hl : left - xs.length < 0
  · go_enter Tryz.func91, Tryz.ntmps91
    go_wp2
    go_ret
    exact ⟨⟨-1, rfl, by omega, by omega⟩, Below.refl _ _⟩
  · go_enter Tryz.func91, Tryz.ntmps91
    go_wp2
    go_loopw [1, 5] (fun l i wr => ∃ (k : Nat) (r : Int), k ≤ xs.length ∧ i = .int .i64 k ∧ l = .int .i64 r ∧ 0 ≤ r ∧ r ≤ left ∧ Below w.heap.size w wr) (fun _ i _ => xs.length - (intOf i).toNat)
    case atStart => exact ⟨0, _, Nat.zero_le _, rfl, rfl, by omega, by omega, Below.refl _ _⟩
    case round =>
      obtain ⟨k, r, hk, rfl, rfl, hr0, hr1, hb⟩ := hrel
      have HB : Hid (Below w.heap.size w wr) := hb
      clear hb
      by_cases hlt : k < xs.length
      · obtain ⟨b, off, cap', x, hv, hbl, hx, hxf, e0⟩ := (HS.out.below HB.out).at hlt
        cases hv
        unfold maxLen at hxf
        clear hx
        by_cases hr : r - x.size < 0
        · go_wp2
          go_ret
          exact ⟨⟨-1, rfl, by omega, by omega⟩, HB.out⟩
        · go_wp2
          go_roundw
          case rel => exact ⟨k + 1, r - x.size, by omega, by go_num, rfl, by omega, by omega, HB.out⟩
          case measure => simp [intOf]; omega
      · go_wp2
        go_ret
        exact ⟨⟨r, rfl, by omega, by omega⟩, HB.out⟩
theorem Tryz.info_text : (Tryz.prog.info? 9).map (fun i => (i.zero, i.size, i.bytes)) = some (some (.string ⟨#[]⟩), 1, 16) := by kernel_rfl
set_option maxHeartbeats 1000000 in
theorem toStringS_any (w : World) (v : Value) (xs : List ByteArray) (h : TextsAt w v xs) (hn : xs.length ≤ 1048576) :
    Calls Tryz.prog 92 #[v] w fun e w' => e = .returned (.slice (some ⟨w.heap.size, 0, none⟩) xs.length xs.length) ∧ TextsAt w' (.slice (some ⟨w.heap.size, 0, none⟩) xs.length xs.length) xs ∧ Below w.heap.size w w' := by
  have hfit := h.fit
  obtain ⟨a, cap, rfl, hc, hm⟩ := h.form
  have HS : Hid (TextsAt w (.slice a xs.length cap) xs) := h
  have HFI : Hid (∀ (i : Nat) (x : ByteArray), xs[i]? = some x → x.size ≤ maxLen) := hfit
  clear h hfit
  unfold maxLen at hm
  have hmk := run_make_row' (P := Tryz.prog) 27 9 (.string ⟨#[]⟩) 16 Tryz.underlying27 Tryz.info_text rfl .i64 .i64 xs.length (by omega) (by omega)
  have HF : Hid ((w.alloc (.cells (madeCells #[.string ⟨#[]⟩] xs.length) 9)).rowIs w.heap.size 9 xs.length (fun _ => .string ⟨#[]⟩)) := World.rowIs_made w (.string ⟨#[]⟩) xs.length 9
  go_enter Tryz.func92, Tryz.ntmps92
  go_wp2
  go_loopw [4] (fun i wr => ∃ (k : Nat) (f : Nat → Value), k ≤ xs.length ∧ i = .int .i64 k ∧ wr.rowIs w.heap.size 9 xs.length f ∧ (∀ (j : Nat) (x : ByteArray), j < k → xs[j]? = some x → f j = .string x) ∧ Below w.heap.size w wr) (fun i _ => xs.length - (intOf i).toNat)
  case atStart => exact ⟨0, _, Nat.zero_le _, rfl, HF.out, fun j s hj => absurd hj (by omega), (Below.refl _ _).alloc (Nat.le_refl _) _⟩
  case round =>
    obtain ⟨k, f, hk, rfl, hrow, hall, hb⟩ := hrel
    have HA : Hid (∀ (j : Nat) (x : ByteArray), j < k → xs[j]? = some x → f j = .string x) := hall
    have HB : Hid (Below w.heap.size w wr) := hb
    have HW : Hid (wr.rowIs w.heap.size 9 xs.length f) := hrow
    clear hall hb hrow
    by_cases hlt : k < xs.length
    · obtain ⟨b, off, cap', x, hv, hbl, hx, hxf, e0⟩ := (HS.out.below HB.out).at hlt
      cases hv
      have HX : Hid (xs[k]? = some x) := hx
      have d0 := HW.out.cell (i := k) hlt
      have g0 := HW.out.frozen k
      clear hx hxf
      go_wp2
      go_roundw
      case rel =>
        refine ⟨k + 1, _, by omega, by go_num, HW.out.set k _, fun j y hj hy => ?_, HB.out.setCell (Nat.le_refl _) _⟩
        by_cases e : j = k
        · subst e
          rw [HX.out] at hy
          cases hy
          simp
        · simp only [e, if_false]
          exact HA.out j y (by omega) hy
      case measure => simp [intOf]; omega
    · obtain rfl : k = xs.length := by omega
      go_wp2
      go_ret
      refine ⟨rfl, ⟨_, _, rfl, Nat.le_refl _, by unfold maxLen; omega, HFI.out, fun hne => ⟨w.heap.size, 0, rfl, HW.out.lt, fun i x hx => ?_⟩⟩, HB.out⟩
      have hi : i < xs.length := (List.getElem?_eq_some_iff.1 hx).1
      rw [Nat.zero_add]
      exact (HW.out.cell hi).trans (by rw [HA.out i x hi hx])
end Go.Proofs.YtcdgikhkjpneiaaGreatDoor
/-
  A change that a law is given: opened, its size, a copy of it, held against another one.
-/
namespace Go.Proofs.YtcdgikhkjpneiaaGreatDoor
open Go.ChangeShapes Go.WideShapes Go.ChangeAt Go.RowKit
set_option linter.unusedVariables false
theorem rowIs_new {w : World} (arr : Array Value) (t : TypeId) : (w.alloc (.cells arr t)).rowIs w.heap.size t arr.size (fun i => arr[i]?.getD .nilFunc) :=
  ⟨arr, Go.Deep.blk_alloc_new _ _, rfl, fun i hi => by simp [hi]⟩
theorem rowIs_other {w : World} {b n : Nat} {t : TypeId} {f : Nat → Value} (h : w.rowIs b t n f) {p : Addr} (hp : b ≠ p.block) (u : Value) : (w.setCell p u).rowIs b t n f :=
  h.of_block (Below.heap_setCell _ _ _ b hp)
theorem TextsAt.set {w : World} {b off n cap : Nat} {xs : List ByteArray} (h : TextsAt w (.slice (some ⟨b, off, none⟩) n cap) xs) {p : Addr} (hp : b ≠ p.block) (u : Value) : TextsAt (w.setCell p u) (.slice (some ⟨b, off, none⟩) n cap) xs := by
  obtain ⟨a, cap', hv, hc, hm, hf, hh⟩ := h
  refine ⟨a, cap', hv, hc, hm, hf, fun hn => ?_⟩
  obtain ⟨b', off', ha, h2, h3⟩ := hh hn
  cases ha
  cases hv
  refine ⟨b, off, rfl, by rw [Go.Deep.nblk_setCell]; exact h2, fun i x hx => ?_⟩
  rw [World.cell?_setCell_other _ _ _ _ (by intro e; first | exact hp (congrArg Addr.block e) | exact hp (congrArg Addr.block e).symm)]
  exact h3 i x hx
set_option maxRecDepth 100000 in
theorem open_delta {H : Type} {enc : TypeId × Value → H} {w : World} {r : Reach} {b0 base : Nat} {spare : Nat → Bool} {held : Bool} {v : Value} {d : DataW H} {p : List MemPlace}
    (hv : Value.okWide Tryz.prog w r b0 45 v) (h : DataW.Trod enc Tryz.prog w base spare held 45 v d p) :
    ∃ vg vc af vl gs es xs, v = .agg #[vg, vc, .bool af, vl] ∧ TextsAt w vg gs ∧ EntsAt w vc es ∧ AffsAt w vl xs := by
  obtain ⟨cs, rfl, hsz⟩ := okWide_struct Tryz.underlying45 hv
  obtain ⟨vg, vc, va, vl, rfl⟩ : ∃ vg vc va vl, cs = #[vg, vc, va, vl] := by
    have h2 : cs.size = 4 := hsz.trans (by kernel_rfl)
    obtain ⟨l⟩ := cs
    match l, h2 with
    | [x, y, z, u], _ => exact ⟨x, y, z, u, rfl⟩
  obtain ⟨fuel, hf⟩ := h
  obtain ⟨ys, n, rfl, hx, hl, hn, hall⟩ := DataW.trod_struct Tryz.underlying45 hf
  have k0 := hall 0 _ rfl
  have k1 := hall 1 _ rfl
  have k2 := hall 2 _ rfl
  have k3 := hall 3 _ rfl
  have o1 : Tryz.prog.cellsOf 27 = 1 := by kernel_rfl
  have o2 : Tryz.prog.cellsOf 23 = 1 := by kernel_rfl
  have o3 : Tryz.prog.cellsOf 4 = 1 := by kernel_rfl
  have o4 : Tryz.prog.cellsOf 22 = 1 := by kernel_rfl
  match ys, hn with
  | [y0, y1, y2, y3], _ =>
    simp [Value.cells, o1, o2, o3, o4] at k0 k1 k2 k3
    obtain ⟨gs, hgs⟩ := open_texts k0
    obtain ⟨es, hes⟩ := open_ents k1
    obtain ⟨xs, hxs⟩ := open_affs k3
    obtain ⟨af, haf, -⟩ := DataW.trod_bool Tryz.underlying4 k2
    simp only [List.cons.injEq, and_true] at haf
    subst haf
    exact ⟨vg, vc, af, vl, gs, es, xs, rfl, hgs, hes, hxs⟩
set_option maxHeartbeats 1000000 in
theorem szDelta_any (w : World) (vg vc vl : Value) (af : Bool) (gs : List ByteArray) (es : List (ByteArray × ByteArray)) (xs : List Aff) (left : Int) (hg : TextsAt w vg gs) (he : EntsAt w vc es) (ha : AffsAt w vl xs) (h0 : 0 ≤ left) (h1 : left ≤ 1048576) :
    Calls Tryz.prog 46 #[.agg #[vg, vc, .bool af, vl], .int .i64 left] w fun e w' => (∃ r : Int, e = .returned (.int .i64 r) ∧ (0 ≤ r → gs.length ≤ 1048576 ∧ es.length ≤ 1048576 ∧ xs.length ≤ 1048576)) ∧ Below w.heap.size w w' := by
  obtain ⟨a, cap, rfl, hc, hm⟩ := hg.form
  obtain ⟨a', cap', rfl, hc', hm'⟩ := he.form
  obtain ⟨a2, cap2, rfl, hc2, hm2⟩ := ha.form
  have HG : Hid (TextsAt w (.slice a gs.length cap) gs) := hg
  have HE : Hid (EntsAt w (.slice a' es.length cap') es) := he
  have HA : Hid (AffsAt w (.slice a2 xs.length cap2) xs) := ha
  clear hg he ha
  go_enter Tryz.func46, Tryz.ntmps46
  go_wp2_with fail
  refine (szStringS_any _ _ gs _ (HG.out.below ((Below.refl _ _).alloc (Nat.le_refl _) _)) (by omega) (by omega)).mono ?_
  rintro e w1 ⟨⟨r, rfl, hr1, hr2⟩, hb1⟩
  have HB1 : Hid (Below w.heap.size w w1) := Below.trans ((Below.refl _ _).alloc (Nat.le_refl _) _) (hb1.mono (by simp <;> omega))
  have HR : Hid (0 ≤ r → gs.length ≤ 1048576) := hr2
  have hcl : w1.cell? ⟨w.heap.size, 1, none⟩ = some (.slice a' es.length cap') := (hb1.cell (p := ⟨w.heap.size, 1, none⟩) (by simp)).trans (by simp [go_sem])
  have hcl3 : w1.cell? ⟨w.heap.size, 3, none⟩ = some (.slice a2 xs.length cap2) := (hb1.cell (p := ⟨w.heap.size, 3, none⟩) (by simp)).trans (by simp [go_sem])
  have hz : w.heap.size < w1.heap.size := by have := hb1.size; simp at this; omega
  clear hb1 hr2
  by_cases hr : r < 0
  · go_wp2
    go_ret
    exact ⟨⟨-1, rfl, by omega⟩, HB1.out⟩
  · go_wp2_with fail
    refine (szEntryS_any _ _ es _ (HE.out.below HB1.out) (by omega) (by omega)).mono ?_
    rintro e w2 ⟨⟨q, rfl, hq1, hq2⟩, hb2⟩
    have HB2 : Hid (Below w.heap.size w w2) := HB1.out.trans (hb2.mono HB1.out.size)
    have HQ : Hid (0 ≤ q → es.length ≤ 1048576) := hq2
    have hcl4 := (hb2.cell (p := ⟨w.heap.size, 3, none⟩) hz).trans hcl3
    clear hb2 hq2 hcl hcl3
    by_cases hq : q < 0
    · go_wp2
      go_ret
      exact ⟨⟨-1, rfl, by omega⟩, HB2.out⟩
    · go_wp2_with fail
      refine (szAffixS_any _ _ xs _ (HA.out.below HB2.out) (by omega) (by omega)).mono ?_
      rintro e w3 ⟨⟨p, rfl, hp1, hp2⟩, hb3⟩
      have HB3 : Hid (Below w.heap.size w w3) := HB2.out.trans (hb3.mono HB2.out.size)
      have HP : Hid (0 ≤ p → xs.length ≤ 1048576) := hp2
      clear hb3 hp2 hcl4
      by_cases hp : p < 0
      · go_wp2
        go_ret
        exact ⟨⟨-1, rfl, by omega⟩, HB3.out⟩
      · go_wp2
        go_ret
        exact ⟨⟨p, rfl, fun _ => ⟨HR.out (by omega), HQ.out (by omega), HP.out (by omega)⟩⟩, HB3.out⟩
set_option maxHeartbeats 1000000 in
theorem eqDelta_same (w : World) (vg vc vl ug uc ul : Value) (af : Bool) (gs : List ByteArray) (es : List (ByteArray × ByteArray)) (xs : List Aff) (hg : TextsAt w vg gs) (he : EntsAt w vc es) (ha : AffsAt w vl xs) (hg' : TextsAt w ug gs) (he' : EntsAt w uc es) (ha' : AffsAt w ul xs) :
    Calls Tryz.prog 39 #[.agg #[vg, vc, .bool af, vl], .agg #[ug, uc, .bool af, ul]] w fun e w' => e = .returned (.bool true) ∧ Below w.heap.size w w' := by
  obtain ⟨a1, cap1, rfl, _, _⟩ := hg.form
  obtain ⟨a2, cap2, rfl, _, _⟩ := he.form
  obtain ⟨a3, cap3, rfl, _, _⟩ := ha.form
  obtain ⟨a4, cap4, rfl, _, _⟩ := hg'.form
  obtain ⟨a5, cap5, rfl, _, _⟩ := he'.form
  obtain ⟨a6, cap6, rfl, _, _⟩ := ha'.form
  have H1 : Hid (TextsAt w (.slice a1 gs.length cap1) gs) := hg
  have H2 : Hid (EntsAt w (.slice a2 es.length cap2) es) := he
  have H3 : Hid (AffsAt w (.slice a3 xs.length cap3) xs) := ha
  have H4 : Hid (TextsAt w (.slice a4 gs.length cap4) gs) := hg'
  have H5 : Hid (EntsAt w (.slice a5 es.length cap5) es) := he'
  have H6 : Hid (AffsAt w (.slice a6 xs.length cap6) xs) := ha'
  clear hg he ha hg' he' ha'
  go_enter Tryz.func39, Tryz.ntmps39
  go_wp2_with fail
  refine (eqStringS_same _ _ _ gs (H1.out.below ?b1) (H4.out.below ?b1)).mono ?_
  case b1 => exact ((Below.refl _ _).alloc (Nat.le_refl _) _).alloc (by simp) _
  rintro e w1 ⟨rfl, hb1⟩
  have HB1 : Hid (Below w.heap.size w w1) := Below.trans (((Below.refl _ _).alloc (Nat.le_refl _) _).alloc (by simp) _) (hb1.mono (by simp <;> omega))
  obtain ⟨hcl, hfz⟩ := bcell7 hb1
  have hz := hb1.size
  simp at hz
  clear hb1
  go_wp2_with fail
  refine (eqEntryS_same _ _ _ es (H2.out.below HB1.out) (H5.out.below HB1.out)).mono ?_
  rintro e w2 ⟨rfl, hb2⟩
  have HB2 : Hid (Below w.heap.size w w2) := HB1.out.trans (hb2.mono HB1.out.size)
  have d2 : ∀ i, w2.cell? ⟨w.heap.size, i, none⟩ = w1.cell? ⟨w.heap.size, i, none⟩ := fun i => hb2.cell (p := ⟨w.heap.size, i, none⟩) (show w.heap.size < _ by omega)
  have d3 : ∀ i, w2.cell? ⟨w.heap.size + 1, i, none⟩ = w1.cell? ⟨w.heap.size + 1, i, none⟩ := fun i => hb2.cell (p := ⟨w.heap.size + 1, i, none⟩) (show w.heap.size + 1 < _ by omega)
  clear hb2
  go_wp2_with fail
  refine (eqAffixS_same _ _ _ xs (H3.out.below HB2.out) (H6.out.below HB2.out)).mono ?_
  rintro e w3 ⟨rfl, hb3⟩
  have HB3 : Hid (Below w.heap.size w w3) := HB2.out.trans (hb3.mono HB2.out.size)
  clear hb3 hcl hfz d2 d3
  go_wp2
  go_ret
  exact ⟨rfl, HB3.out⟩
set_option maxHeartbeats 2000000 in
theorem toDelta_any (w : World) (vg vc vl : Value) (af : Bool) (gs : List ByteArray) (es : List (ByteArray × ByteArray)) (xs : List Aff) (hg : TextsAt w vg gs) (he : EntsAt w vc es) (ha : AffsAt w vl xs) (n1 : gs.length ≤ 1048576) (n2 : es.length ≤ 1048576) (n3 : xs.length ≤ 1048576) :
    Calls Tryz.prog 47 #[.agg #[vg, vc, .bool af, vl]] w fun e w' => ∃ vg' vc' vl', e = .returned (.agg #[vg', vc', .bool af, vl']) ∧ TextsAt w' vg' gs ∧ EntsAt w' vc' es ∧ AffsAt w' vl' xs ∧ Below w.heap.size w w' := by
  obtain ⟨a, cap, rfl, hc, hm⟩ := hg.form
  obtain ⟨a', cap', rfl, hc', hm'⟩ := he.form
  obtain ⟨a2, cap2, rfl, hc2, hm2⟩ := ha.form
  have HG : Hid (TextsAt w (.slice a gs.length cap) gs) := hg
  have HE : Hid (EntsAt w (.slice a' es.length cap') es) := he
  have HA : Hid (AffsAt w (.slice a2 xs.length cap2) xs) := ha
  clear hg he ha hm hm' hm2 hc hc' hc2
  obtain ⟨W0, hW0⟩ : ∃ W0, ((w.alloc (.cells #[.slice a gs.length cap, .slice a' es.length cap', .bool af, .slice a2 xs.length cap2] 45)).alloc (.cells #[.slice none 0 0, .slice none 0 0, .bool false, .slice none 0 0] 31)).alloc (.cells #[.slice none 0 0, .slice none 0 0, .bool false, .slice none 0 0] 31) = W0 := ⟨_, rfl⟩
  have B0 : Below w.heap.size w W0 := by rw [← hW0]; exact (((Below.refl _ _).alloc (Nat.le_refl _) _).alloc (by simp) _).alloc (by simp <;> omega) _
  have Z0 : W0.heap.size = w.heap.size + 3 := by rw [← hW0]; simp
  have R0 : W0.rowIs w.heap.size 45 4 (fun i => #[Value.slice a gs.length cap, .slice a' es.length cap', .bool af, .slice a2 xs.length cap2][i]?.getD .nilFunc) := by
    rw [← hW0]
    exact rowIs_below7 (rowIs_new _ _) (((Below.refl _ _).alloc (Nat.le_refl _) _).alloc (by simp) _)
  have R1 : W0.rowIs (w.heap.size + 1) 31 4 (fun i => #[Value.slice none 0 0, .slice none 0 0, .bool false, .slice none 0 0][i]?.getD .nilFunc) := by
    rw [← hW0]
    have h := rowIs_new (w := w.alloc (.cells #[.slice a gs.length cap, .slice a' es.length cap', .bool af, .slice a2 xs.length cap2] 45)) #[.slice none 0 0, .slice none 0 0, .bool false, .slice none 0 0] 31
    rw [World.size_alloc] at h
    exact rowIs_below7 h ((Below.refl _ _).alloc (Nat.le_refl _) _)
  have R2 : W0.rowIs (w.heap.size + 1 + 1) 31 4 (fun i => #[Value.slice none 0 0, .slice none 0 0, .bool false, .slice none 0 0][i]?.getD .nilFunc) := by
    rw [← hW0]
    have h := rowIs_new (w := (w.alloc (.cells #[.slice a gs.length cap, .slice a' es.length cap', .bool af, .slice a2 xs.length cap2] 45)).alloc (.cells #[.slice none 0 0, .slice none 0 0, .bool false, .slice none 0 0] 31)) #[.slice none 0 0, .slice none 0 0, .bool false, .slice none 0 0] 31
    rw [World.size_alloc, World.size_alloc] at h
    exact h
  have c00 : W0.cell? ⟨w.heap.size, 0, none⟩ = some (.slice a gs.length cap) := R0.cell (by decide)
  go_enter Tryz.func47, Tryz.ntmps47
  go_wp2_with fail
  refine (toStringS_any W0 _ gs (HG.out.below B0) n1).mono ?_
  rw [Z0]
  rintro e w1 ⟨rfl, hT1, hb1⟩
  have Z1 : w.heap.size + 3 ≤ w1.heap.size := by have := hb1.size; omega
  have B1 : Below w.heap.size w w1 := B0.trans (hb1.mono (by omega))
  have R01 := rowIs_below7 R0 (Z0 ▸ hb1)
  have R11 := rowIs_below7 R1 (Z0 ▸ hb1)
  have R21 := rowIs_below7 R2 (Z0 ▸ hb1)
  clear hb1 R0 R1 R2 c00 B0 hW0 Z0
  obtain ⟨w2, hw2⟩ : ∃ w2, w1.setCell ⟨w.heap.size + 1 + 1, 0, none⟩ (.slice (some ⟨w.heap.size + 3, 0, none⟩) gs.length gs.length) = w2 := ⟨_, rfl⟩
  have c1 := R21.cell (i := 0) (by decide)
  have z1 := R21.frozen 0
  have R02 := rowIs_other R01 (p := ⟨w.heap.size + 1 + 1, 0, none⟩) (show w.heap.size ≠ w.heap.size + 1 + 1 by omega) (.slice (some ⟨w.heap.size + 3, 0, none⟩) gs.length gs.length)
  have R12 := rowIs_other R11 (p := ⟨w.heap.size + 1 + 1, 0, none⟩) (show w.heap.size + 1 ≠ w.heap.size + 1 + 1 by omega) (.slice (some ⟨w.heap.size + 3, 0, none⟩) gs.length gs.length)
  have R22 := R21.set 0 (.slice (some ⟨w.heap.size + 3, 0, none⟩) gs.length gs.length)
  have B2 : Below w.heap.size w w2 := by rw [← hw2]; exact B1.setCell (show w.heap.size ≤ w.heap.size + 1 + 1 by omega) _
  have T2 : Hid (TextsAt w2 (.slice (some ⟨w.heap.size + 3, 0, none⟩) gs.length gs.length) gs) := by rw [← hw2]; exact hT1.set (show w.heap.size + 3 ≠ w.heap.size + 1 + 1 by omega) _
  have Z2 : w.heap.size + 3 ≤ w2.heap.size := by rw [← hw2, Go.Deep.nblk_setCell]; exact Z1
  rw [hw2] at R02 R12 R22
  have c2 : w2.cell? ⟨w.heap.size, 1, none⟩ = some (.slice a' es.length cap') := R02.cell (by decide)
  clear R01 R11 R21 hT1 B1 Z1
  go_wp2_with fail
  clear c1 z1 hw2
  refine (toEntryS_any w2 _ es (HE.out.below B2) n2).mono ?_
  obtain ⟨g3, hg3⟩ : ∃ g3, w2.heap.size = g3 := ⟨_, rfl⟩
  rw [hg3]
  rintro e w3 ⟨rfl, hE3, hb3⟩
  have B3 : Below w.heap.size w w3 := B2.trans (hb3.mono (by omega))
  have R03 := rowIs_below7 R02 (hg3 ▸ hb3)
  have R13 := rowIs_below7 R12 (hg3 ▸ hb3)
  have R23 := rowIs_below7 R22 (hg3 ▸ hb3)
  have T3 : Hid (TextsAt w3 (.slice (some ⟨w.heap.size + 3, 0, none⟩) gs.length gs.length) gs) := T2.out.below (hg3 ▸ hb3)
  have Z3 : g3 ≤ w3.heap.size := by have := hb3.size; omega
  have hg3' : w.heap.size + 3 ≤ g3 := by omega
  clear hb3 R02 R12 R22 c2 B2 T2 Z2 hg3
  obtain ⟨w4, hw4⟩ : ∃ w4, w3.setCell ⟨w.heap.size + 1 + 1, 1, none⟩ (.slice (some ⟨g3, 0, none⟩) es.length es.length) = w4 := ⟨_, rfl⟩
  have c3 := R23.cell (i := 1) (by decide)
  have z3 := R23.frozen 1
  have R04 := rowIs_other R03 (p := ⟨w.heap.size + 1 + 1, 1, none⟩) (show w.heap.size ≠ w.heap.size + 1 + 1 by omega) (.slice (some ⟨g3, 0, none⟩) es.length es.length)
  have R14 := rowIs_other R13 (p := ⟨w.heap.size + 1 + 1, 1, none⟩) (show w.heap.size + 1 ≠ w.heap.size + 1 + 1 by omega) (.slice (some ⟨g3, 0, none⟩) es.length es.length)
  have R24 := R23.set 1 (.slice (some ⟨g3, 0, none⟩) es.length es.length)
  have B4 : Below w.heap.size w w4 := by rw [← hw4]; exact B3.setCell (show w.heap.size ≤ w.heap.size + 1 + 1 by omega) _
  have T4 : Hid (TextsAt w4 (.slice (some ⟨w.heap.size + 3, 0, none⟩) gs.length gs.length) gs) := by rw [← hw4]; exact T3.out.set (show w.heap.size + 3 ≠ w.heap.size + 1 + 1 by omega) _
  have E4 : Hid (EntsAt w4 (.slice (some ⟨g3, 0, none⟩) es.length es.length) es) := by rw [← hw4]; exact hE3.set (show g3 ≠ w.heap.size + 1 + 1 by omega) _
  have Z4 : g3 ≤ w4.heap.size := by rw [← hw4, Go.Deep.nblk_setCell]; exact Z3
  rw [hw4] at R04 R14 R24
  obtain ⟨w5, hw5⟩ : ∃ w5, w4.setCell ⟨w.heap.size + 1 + 1, 2, none⟩ (.bool af) = w5 := ⟨_, rfl⟩
  have c4 : w4.cell? ⟨w.heap.size, 2, none⟩ = some (.bool af) := R04.cell (by decide)
  have c5 := R24.cell (i := 2) (by decide)
  have z5 := R24.frozen 2
  have R05 := rowIs_other R04 (p := ⟨w.heap.size + 1 + 1, 2, none⟩) (show w.heap.size ≠ w.heap.size + 1 + 1 by omega) (.bool af)
  have R15 := rowIs_other R14 (p := ⟨w.heap.size + 1 + 1, 2, none⟩) (show w.heap.size + 1 ≠ w.heap.size + 1 + 1 by omega) (.bool af)
  have R25 := R24.set 2 (.bool af)
  have B5 : Below w.heap.size w w5 := by rw [← hw5]; exact B4.setCell (show w.heap.size ≤ w.heap.size + 1 + 1 by omega) _
  have T5 : Hid (TextsAt w5 (.slice (some ⟨w.heap.size + 3, 0, none⟩) gs.length gs.length) gs) := by rw [← hw5]; exact T4.out.set (show w.heap.size + 3 ≠ w.heap.size + 1 + 1 by omega) _
  have E5 : Hid (EntsAt w5 (.slice (some ⟨g3, 0, none⟩) es.length es.length) es) := by rw [← hw5]; exact E4.out.set (show g3 ≠ w.heap.size + 1 + 1 by omega) _
  have Z5 : g3 ≤ w5.heap.size := by rw [← hw5, Go.Deep.nblk_setCell]; exact Z4
  rw [hw5] at R05 R15 R25
  have c6 : w5.cell? ⟨w.heap.size, 3, none⟩ = some (.slice a2 xs.length cap2) := R05.cell (by decide)
  clear R03 R13 R23 R04 R14 R24 B3 T3 hE3 Z3 B4 T4 E4 Z4
  go_wp2_with fail
  clear c3 z3 c4 c5 z5 hw4 hw5
  refine (toAffixS_any w5 _ xs (HA.out.below B5) n3).mono ?_
  obtain ⟨g6, hg6⟩ : ∃ g6, w5.heap.size = g6 := ⟨_, rfl⟩
  rw [hg6]
  rintro e w6 ⟨rfl, hA6, hb6⟩
  have B6 : Below w.heap.size w w6 := B5.trans (hb6.mono (by omega))
  have R16 := rowIs_below7 R15 (hg6 ▸ hb6)
  have R26 := rowIs_below7 R25 (hg6 ▸ hb6)
  have T6 : Hid (TextsAt w6 (.slice (some ⟨w.heap.size + 3, 0, none⟩) gs.length gs.length) gs) := T5.out.below (hg6 ▸ hb6)
  have E6 : Hid (EntsAt w6 (.slice (some ⟨g3, 0, none⟩) es.length es.length) es) := E5.out.below (hg6 ▸ hb6)
  have A6 : Hid (AffsAt w6 (.slice (some ⟨g6, 0, none⟩) xs.length xs.length) xs) := hA6
  have hg6' : g3 ≤ g6 := by omega
  clear hb6 R05 R15 R25 c6 B5 T5 E5 Z5 hg6 hA6
  have c7 : w6.cell? ⟨w.heap.size + 1 + 1, 3, none⟩ = some (.slice none 0 0) := R26.cell (by decide)
  have z7 := R26.frozen 3
  have m0 : w6.cell? ⟨w.heap.size + 1 + 1, 0, none⟩ = some (.slice (some ⟨w.heap.size + 3, 0, none⟩) gs.length gs.length) := R26.cell (by decide)
  have m1 : w6.cell? ⟨w.heap.size + 1 + 1, 1, none⟩ = some (.slice (some ⟨g3, 0, none⟩) es.length es.length) := R26.cell (by decide)
  have m2 : w6.cell? ⟨w.heap.size + 1 + 1, 2, none⟩ = some (.bool af) := R26.cell (by decide)
  have q0 : w6.cell? ⟨w.heap.size + 1, 0, none⟩ = some (.slice none 0 0) := R16.cell (by decide)
  have q1 : w6.cell? ⟨w.heap.size + 1, 1, none⟩ = some (.slice none 0 0) := R16.cell (by decide)
  have q2 : w6.cell? ⟨w.heap.size + 1, 2, none⟩ = some (.bool false) := R16.cell (by decide)
  have q3 : w6.cell? ⟨w.heap.size + 1, 3, none⟩ = some (.slice none 0 0) := R16.cell (by decide)
  have y0 := R16.frozen 0
  have y1 := R16.frozen 1
  have y2 := R16.frozen 2
  have y3 := R16.frozen 3
  clear R16 R26
  go_wp2
  refine bodyPost_ret (v := .agg #[.slice (some ⟨w.heap.size + 3, 0, none⟩) gs.length gs.length, .slice (some ⟨g3, 0, none⟩) es.length es.length, .bool af, .slice (some ⟨g6, 0, none⟩) xs.length xs.length]) (by simp [results, Tryz.results47, go_sem, q0, q1, q2, q3, World.cell?_setCell_same', World.cell?_setCell_other]) rfl ⟨_, _, _, rfl, ?_, ?_, ?_, ?_⟩
  · exact ((((T6.out.set (by simp <;> omega) _).set (by simp <;> omega) _).set (by simp <;> omega) _).set (by simp <;> omega) _).set (by simp <;> omega) _
  · exact ((((E6.out.set (by simp <;> omega) _).set (by simp <;> omega) _).set (by simp <;> omega) _).set (by simp <;> omega) _).set (by simp <;> omega) _
  · exact ((((A6.out.set (by simp <;> omega) _).set (by simp <;> omega) _).set (by simp <;> omega) _).set (by simp <;> omega) _).set (by simp <;> omega) _
  · exact ((((B6.setCell (by simp <;> omega) _).setCell (by simp <;> omega) _).setCell (by simp <;> omega) _).setCell (by simp <;> omega) _).setCell (by simp <;> omega) _
end Go.Proofs.YtcdgikhkjpneiaaGreatDoor
/-
  What goes in a change: impl.listOk, impl.goesOk.
-/
namespace Go.Proofs.YtcdgikhkjpneiaaGreatDoor
open Go.RowKit
set_option linter.unusedVariables false
/-- The text at a place is a word, and comes behind the one ahead. -/
def goAt (gs : List ByteArray) (i : Nat) : Bool :=
  match gs[i]? with
  | none => true
  | some g => wok g && (match i with | 0 => true | j + 1 => match gs[j]? with | none => true | some p => Op.bytesLess p.toList g.toList)
def goesAll (gs : List ByteArray) : Bool := (List.range gs.length).all (goAt gs)
def goesT (gs : List ByteArray) : Bool := decide (gs.length ≤ 24) && goesAll gs
theorem goesAll_bad {gs : List ByteArray} (i : Nat) (hi : i < gs.length) (h : goAt gs i = false) : goesAll gs = false := by
  cases e : goesAll gs with
  | false => rfl
  | true =>
    unfold goesAll at e
    rw [List.all_eq_true] at e
    rw [e i (List.mem_range.2 hi)] at h
    cases h
theorem goesAll_good {gs : List ByteArray} (h : ∀ i, i < gs.length → goAt gs i = true) : goesAll gs = true := by
  unfold goesAll
  rw [List.all_eq_true]
  exact fun i hi => h i (List.mem_range.1 hi)
theorem goAt_no {gs : List ByteArray} {i : Nat} {g : ByteArray} (hg : gs[i]? = some g) (h : wok g = false) : goAt gs i = false := by simp [goAt, hg, h]
theorem goAt_zero {gs : List ByteArray} {g : ByteArray} (hg : gs[0]? = some g) : goAt gs 0 = wok g := by simp [goAt, hg]
theorem goAt_succ {gs : List ByteArray} {j : Nat} {p g : ByteArray} (hp : gs[j]? = some p) (hg : gs[j + 1]? = some g) : goAt gs (j + 1) = (wok g && Op.bytesLess p.toList g.toList) := by simp [goAt, hp, hg]
set_option maxHeartbeats 1000000 in
theorem listOk_any (w : World) (v : Value) (gs : List ByteArray) (h : TextsAt w v gs) (hl : gs.length ≤ 300) :
    Calls Tryz.prog 133 #[v] w fun e w' => e = .returned (.bool (goesAll gs)) ∧ Below w.heap.size w w' := by
  obtain ⟨a, cap, rfl, hc, hm⟩ := h.form
  have HS : Hid (TextsAt w (.slice a gs.length cap) gs) := h
  clear h
  unfold maxLen at hm
  go_enter Tryz.func133, Tryz.ntmps133
  go_wp2
  go_loopw [10] (fun i wr => ∃ (k : Nat), k ≤ gs.length ∧ i = .int .i64 k ∧ (∀ j : Nat, j < k → goAt gs j = true) ∧ Below w.heap.size w wr) (fun i _ => gs.length - (intOf i).toNat)
  case atStart => exact ⟨0, Nat.zero_le _, rfl, fun j hj => absurd hj (by omega), Below.refl _ _⟩
  case round =>
    obtain ⟨k, hk, rfl, hall, hb⟩ := hrel
    have HB : Hid (Below w.heap.size w wr) := hb
    have HL : Hid (∀ j : Nat, j < k → goAt gs j = true) := hall
    clear hb hall
    by_cases hlt : k < gs.length
    · obtain ⟨b, off, cap', g, hv, hbl, hx, hxf, e0⟩ := (HS.out.below HB.out).at hlt
      cases hv
      have HX : Hid (gs[k]? = some g) := hx
      have HM : Hid (g.size ≤ maxLen) := hxf
      clear hx hxf
      cases hw : wok g with
      | false =>
        have HG : Hid (goesAll gs = false) := goesAll_bad k hlt (goAt_no HX.out hw)
        go_wp2_with fail
        refine (wordOk_any g _ HM.out).mono ?_
        rw [hw]
        rintro e w' ⟨rfl, rfl⟩
        go_wp2
        go_ret
        exact ⟨(congrArg (fun b => Ending.returned (.bool b)) HG.out).symm, HB.out⟩
      | true =>
        cases k with
        | zero =>
          rw [Nat.add_zero] at e0
          have HN : Hid (∀ j : Nat, j < 0 + 1 → goAt gs j = true) := fun j hj => by
            obtain rfl : j = 0 := by omega
            rw [goAt_zero HX.out, hw]
          go_wp2_with fail
          refine (wordOk_any g _ HM.out).mono ?_
          rw [hw]
          rintro e w' ⟨rfl, rfl⟩
          go_wp2
          go_roundw
          case rel => exact ⟨0 + 1, by omega, by go_num, HN.out, HB.out⟩
          case measure => simp [intOf]; omega
        | succ m =>
          obtain ⟨b', off', cap2, p, hv', _, hp, _, e1⟩ := (HS.out.below HB.out).at (k := m) (by omega)
          cases hv'
          have HP : Hid (gs[m]? = some p) := hp
          clear hp
          cases hlx : Op.bytesLess p.toList g.toList with
          | false =>
            have HG : Hid (goesAll gs = false) := goesAll_bad (m + 1) hlt (by rw [goAt_succ HP.out HX.out, hlx, Bool.and_false])
            go_wp2_with fail
            refine (wordOk_any g _ HM.out).mono ?_
            rw [hw]
            rintro e w' ⟨rfl, rfl⟩
            go_wp2
            go_ret
            exact ⟨(congrArg (fun b => Ending.returned (.bool b)) HG.out).symm, HB.out⟩
          | true =>
            have HN : Hid (∀ j : Nat, j < m + 1 + 1 → goAt gs j = true) := fun j hj => by
              by_cases e : j = m + 1
              · rw [e, goAt_succ HP.out HX.out, hlx, hw]; rfl
              · exact HL.out j (by omega)
            go_wp2_with fail
            refine (wordOk_any g _ HM.out).mono ?_
            rw [hw]
            rintro e w' ⟨rfl, rfl⟩
            go_wp2
            go_roundw
            case rel => exact ⟨m + 1 + 1, by omega, by go_num, HN.out, HB.out⟩
            case measure => simp [intOf]; omega
    · have HG : Hid (goesAll gs = true) := goesAll_good fun i hi => HL.out i (by omega)
      go_wp2
      go_ret
      exact ⟨(congrArg (fun b => Ending.returned (.bool b)) HG.out).symm, HB.out⟩
set_option maxHeartbeats 1000000 in
theorem goesOk_any (w : World) (v : Value) (gs : List ByteArray) (h : TextsAt w v gs) :
    Calls Tryz.prog 113 #[v] w fun e w' => e = .returned (.bool (goesT gs)) ∧ Below w.heap.size w w' := by
  obtain ⟨a, cap, rfl, hc, hm⟩ := h.form
  have HS : Hid (TextsAt w (.slice a gs.length cap) gs) := h
  clear h
  unfold maxLen at hm
  by_cases hl : gs.length ≤ 24
  · have HG : Hid (goesT gs = goesAll gs) := by show _ = _; simp [goesT, hl]
    go_enter Tryz.func113, Tryz.ntmps113
    go_wp2_with fail
    refine (listOk_any _ _ gs HS.out (by omega)).mono ?_
    rintro e w' ⟨rfl, hb⟩
    have HB : Hid (Below w.heap.size w w') := hb
    clear hb
    go_wp2
    go_ret
    exact ⟨(congrArg (fun b => Ending.returned (.bool b)) HG.out).symm, HB.out⟩
  · have HG : Hid (goesT gs = false) := by show _ = _; simp [goesT, hl]
    go_enter Tryz.func113, Tryz.ntmps113
    go_wp2
    go_ret
    exact ⟨(congrArg (fun b => Ending.returned (.bool b)) HG.out).symm, Below.refl _ _⟩
end Go.Proofs.YtcdgikhkjpneiaaGreatDoor
