/-
  impl.DeltaPut.
-/
import Derived.Test.YtkepmjebnkcbgaaGreatDoorGW83
import Derived.Test.YtkepmjebnkcbgaaGreatDoorGW116
import Derived.Test.YtkepmjebnkcbgaaGreatDoorW84
namespace Go.Proofs.YtkepmjebnkcbgaaGreatDoor
open Go.RowKit
set_option linter.unusedVariables false
/-- What a change's text begins with; the lines of what goes, and of what comes. -/
def headD (af : Bool) : List UInt8 := if af then [97, 102, 102, 105, 120, 101, 115, 10] else []
def lineG (g : ByteArray) : List UInt8 := [45] ++ bl g ++ [10]
def putG (gs : List ByteArray) : List UInt8 := gs.flatMap lineG
def lineC (s f : ByteArray) : List UInt8 := [43] ++ lineE s f
def putC (es : List (ByteArray × ByteArray)) : List UInt8 := es.flatMap fun e => lineC e.1 e.2
theorem putG_take {gs : List ByteArray} {k : Nat} {x : ByteArray} (hx : gs[k]? = some x) : putG (gs.take (k + 1)) = putG (gs.take k) ++ lineG x := by
  unfold putG
  rw [List.take_add_one, hx]
  simp
theorem putC_take {es : List (ByteArray × ByteArray)} {k : Nat} {x : ByteArray × ByteArray} (hx : es[k]? = some x) : putC (es.take (k + 1)) = putC (es.take k) ++ lineC x.1 x.2 := by
  unfold putC
  rw [List.take_add_one, hx]
  simp
theorem headD_length (af : Bool) : (headD af).length ≤ 8 := by cases af <;> decide
theorem lineG_length {g : ByteArray} (h : g.size ≤ 1000) : (lineG g).length ≤ 1002 := by
  unfold lineG
  simp only [List.length_append, List.length_cons, List.length_nil, bl_length]
  omega
theorem lineC_length {s f : ByteArray} (h1 : s.size ≤ 1000) (h2 : f.size ≤ 1000) : (lineC s f).length ≤ 2003 := by
  have := lineE_length h1 h2
  unfold lineC
  simp only [List.length_append, List.length_cons, List.length_nil]
  omega
theorem putG_length {gs : List ByteArray} (h : ∀ (i : Nat) (x : ByteArray), gs[i]? = some x → x.size ≤ 1000) : ∀ k, k ≤ gs.length → (putG (gs.take k)).length ≤ 1002 * k
  | 0, _ => by simp [putG]
  | k + 1, hk => by
    have hx : gs[k]? = some gs[k] := List.getElem?_eq_getElem (by omega)
    have h1 := putG_length h k (by omega)
    have h2 := lineG_length (h k _ hx)
    rw [putG_take hx, List.length_append]
    omega
theorem putC_length {es : List (ByteArray × ByteArray)} (h : ∀ (i : Nat) (x : ByteArray × ByteArray), es[i]? = some x → x.1.size ≤ 1000 ∧ x.2.size ≤ 1000) : ∀ k, k ≤ es.length → (putC (es.take k)).length ≤ 2003 * k
  | 0, _ => by simp [putC]
  | k + 1, hk => by
    have hx : es[k]? = some es[k] := List.getElem?_eq_getElem (by omega)
    have h1 := putC_length h k (by omega)
    have h2 := lineC_length (h k _ hx).1 (h k _ hx).2
    rw [putC_take hx, List.length_append]
    omega
theorem delta_parts {gs : List ByteArray} {es : List (ByteArray × ByteArray)} {af : Bool} {xs : List Aff} (h : deltaT gs es af xs = true) :
    (xs.length ≤ 8 ∧ es.length ≤ 24 ∧ gs.length ≤ 24) ∧ (∀ (i : Nat) (x : Aff), xs[i]? = some x → ShortA x) ∧ (∀ (i : Nat) (x : ByteArray × ByteArray), es[i]? = some x → x.1.size ≤ 1000 ∧ x.2.size ≤ 1000) ∧ ∀ (i : Nat) (x : ByteArray), gs[i]? = some x → x.size ≤ 1000 := by
  unfold deltaT at h
  simp only [Bool.and_eq_true] at h
  obtain ⟨h1, h2, _, h3, _⟩ := h
  obtain ⟨p1, p2, p3, p4⟩ := book_parts (xs := xs) (es := es) (by unfold bookT; rw [h3, h2]; rfl)
  unfold goesT goesAll at h1
  simp only [Bool.and_eq_true, decide_eq_true_eq, List.all_eq_true, List.mem_range] at h1
  refine ⟨⟨p1, p2, h1.1⟩, p3, p4, fun i x hx => ?_⟩
  have h5 := h1.2 i (List.getElem?_eq_some_iff.1 hx).1
  have hw : wok x = true := by
    cases e : wok x with
    | true => rfl
    | false => rw [goAt_no hx e] at h5; cases h5
  have := wok_sz hw
  omega
/-- A change's text. -/
def dputL (gs : List ByteArray) (es : List (ByteArray × ByteArray)) (af : Bool) (xs : List Aff) : List UInt8 := headD af ++ putA xs ++ putG gs ++ putC es
def dputT (gs : List ByteArray) (es : List (ByteArray × ByteArray)) (af : Bool) (xs : List Aff) : ByteArray := if deltaT gs es af xs then mkT (dputL gs es af xs) else ⟨#[]⟩
theorem cells_line (a l : List UInt8) : Lib.byteCells (a ++ l) = Lib.byteCells a ++ Lib.strCells (mkT l) := by rw [byteCells_app, bl_cells, bl_mk]
set_option maxRecDepth 100000 in
set_option maxHeartbeats 4000000 in
theorem implDeltaPut_any (w : World) (vg vc vl : Value) (af : Bool) (gs : List ByteArray) (es : List (ByteArray × ByteArray)) (xs : List Aff) (hg : TextsAt w vg gs) (he : EntsAt w vc es) (ha : AffsAt w vl xs) :
    Calls Tryz.prog 98 #[.agg #[vg, vc, .bool af, vl]] w fun e w' => e = .returned (.string (dputT gs es af xs)) ∧ Below w.heap.size w w' := by
  obtain ⟨a, cap, rfl, hc, hm⟩ := hg.form
  obtain ⟨a', cap', rfl, hc', hm'⟩ := he.form
  obtain ⟨a2, cap2, rfl, hc2, hm2⟩ := ha.form
  have HG : Hid (TextsAt w (.slice a gs.length cap) gs) := hg
  have HE : Hid (EntsAt w (.slice a' es.length cap') es) := he
  have HA : Hid (AffsAt w (.slice a2 xs.length cap2) xs) := ha
  unfold maxLen at hm hm' hm2
  clear hg he ha
  obtain ⟨W0, hW0⟩ : ∃ W0, w.alloc (.cells #[.slice a gs.length cap, .slice a' es.length cap', .bool af, .slice a2 xs.length cap2] 35) = W0 := ⟨_, rfl⟩
  have B0 : Hid (Below w.heap.size w W0) := by rw [← hW0]; exact (Below.refl _ _).alloc (Nat.le_refl _) _
  have R0 : Hid (DRow W0 w.heap.size (.slice a gs.length cap) (.slice a' es.length cap') af (.slice a2 xs.length cap2)) := by rw [← hW0]; exact DRow.new _ _ _ _ _
  have c0 := R0.out.c0
  have c1 := R0.out.c1
  have c2 := R0.out.c2
  have c3 := R0.out.c3
  go_enter Tryz.func98, Tryz.ntmps98
  go_wp2_with fail
  clear hW0 c0 c1 c2 c3
  refine (implDeltaOk_any _ _ _ _ af gs es xs (HG.out.below B0.out) (HE.out.below B0.out) (HA.out.below B0.out)).mono ?_
  rintro e w1 ⟨rfl, hb1⟩
  have HB1 : Hid (Below w.heap.size w w1) := B0.out.trans (hb1.mono B0.out.size)
  have R1 : Hid (DRow w1 w.heap.size (.slice a gs.length cap) (.slice a' es.length cap') af (.slice a2 xs.length cap2)) := R0.out.below hb1
  clear hb1
  cases hok : deltaT gs es af xs with
  | false =>
    have HC : Hid (dputT gs es af xs = ⟨#[]⟩) := by show _ = _; simp [dputT, hok]
    go_wp2
    go_ret
    rw [HC.out]
    exact ⟨rfl, HB1.out⟩
  | true =>
    have HC : Hid (dputT gs es af xs = mkT (headD af ++ (putA xs ++ (putG gs ++ putC es)))) := by show _ = _; simp [dputT, dputL, hok, List.append_assoc]
    obtain ⟨⟨hl8, hl24, hlg⟩, hsa, hse, hsg⟩ := delta_parts hok
    have HSA : Hid (∀ (i : Nat) (x : Aff), xs[i]? = some x → ShortA x) := hsa
    have HSE : Hid (∀ (i : Nat) (x : ByteArray × ByteArray), es[i]? = some x → x.1.size ≤ 1000 ∧ x.2.size ≤ 1000) := hse
    have HSG : Hid (∀ (i : Nat) (x : ByteArray), gs[i]? = some x → x.size ≤ 1000) := hsg
    have hhd := headD_length af
    clear hsa hse hsg hok
    obtain ⟨W1, hW1⟩ : ∃ W1, w1.alloc (.cells #[.pointer none, .slice none 0 0] 111) = W1 := ⟨_, rfl⟩
    have B1 : Hid (Below w1.heap.size w1 W1) := by rw [← hW1]; exact (Below.refl _ _).alloc (Nat.le_refl _) _
    have I1 : Hid (Lib.IsBuilder 111 5 w1.heap.size w1.heap.size (Lib.byteCells []) W1) := by rw [← hW1]; exact .inl ⟨Nat.le_refl _, .slice none 0 0, Go.Deep.blk_alloc_new _ _, World.ownsRow_nil .., by simp [Value.ownBlock]⟩
    have R1a : Hid (DRow W1 w.heap.size (.slice a gs.length cap) (.slice a' es.length cap') af (.slice a2 xs.length cap2)) := R1.out.below B1.out
    have c2 := R1a.out.c2
    have c3 := R1a.out.c3
    cases af with
    | false =>
      go_wp2
      clear hW1
      go_loopw [19] (fun i wr => ∃ (k : Nat), k ≤ xs.length ∧ i = .int .i64 k ∧ Lib.IsBuilder 111 5 w1.heap.size w1.heap.size (Lib.byteCells (headD false ++ putA (xs.take k))) wr ∧ Below w1.heap.size w1 wr) (fun i _ => xs.length - (intOf i).toNat)
      case atStart => exact ⟨0, Nat.zero_le _, rfl, by simpa [putA, headD] using I1.out, B1.out⟩
      case round =>
        obtain ⟨k, hk, rfl, hbd, hb⟩ := hrel
        have HB : Hid (Below w1.heap.size w1 wr) := hb
        have HBD : Hid (Lib.IsBuilder 111 5 w1.heap.size w1.heap.size (Lib.byteCells (headD false ++ putA (xs.take k))) wr) := hbd
        have HBw : Hid (Below w.heap.size w wr) := HB1.out.trans (hb.mono HB1.out.size)
        clear hb hbd
        by_cases hlt : k < xs.length
        · obtain ⟨b, off, cap9, x, hv, hbl, hx, hxf, e0, e1, e2, e3, e4⟩ := (HA.out.below HBw.out).at hlt
          cases hv
          have HX : Hid (xs[k]? = some x) := hx
          have HSX : Hid (ShortA x) := HSA.out k x hx
          have HLA : Hid ((putA (xs.take k)).length ≤ 5006 * k) := putA_length HSA.out k hk
          have HLL : Hid ((lineA x).length ≤ 5006) := lineA_length HSX.out
          obtain ⟨f, fr, st, ad, wh⟩ := x
          simp only at e0 e1 e2 e3 e4
          clear hx hxf
          go_wp2_with fail
          refine (affixLine_any ⟨f, fr, st, ad, wh⟩ _ HSX.out).mono ?_
          rintro e w2 ⟨rfl, hb2⟩
          have HB2 : Hid (Below wr.heap.size wr w2) := ((Below.refl _ _).alloc (Nat.le_refl _) _).trans (hb2.mono (by simp <;> omega))
          clear hb2 e0 e1 e2 e3 e4
          go_wp2_with fail
          refine (writeString_any w1.heap.size w1.heap.size _ (mkT (lineA ⟨f, fr, st, ad, wh⟩)) _ (builder_below8 HBD.out HB2.out) (by rw [Lib.byteCells_length, List.length_append]; have := HLA.out; omega) (by rw [← bl_length, bl_mk]; have := HLL.out; omega) (Nat.le_trans HB.out.size HB2.out.size)).mono ?_
          rintro e w3 ⟨⟨v3, rfl⟩, hbd3, hb3, _⟩
          have HB3 : Hid (Below w1.heap.size w1 w3) := (HB.out.trans (HB2.out.mono HB.out.size)).trans hb3
          have HBD3 : Hid (Lib.IsBuilder 111 5 w1.heap.size w1.heap.size (Lib.byteCells (headD false ++ putA (xs.take (k + 1)))) w3) := by
            rw [putA_take HX.out, ← List.append_assoc, cells_line]
            exact hbd3
          clear hbd3 hb3
          go_wp2
          go_roundw
          case rel => exact ⟨k + 1, by omega, by go_num, HBD3.out, HB3.out⟩
          case measure => simp [intOf]; omega
        · obtain rfl : k = xs.length := by omega
          rw [List.take_length] at HBD
          have HLX : Hid ((putA xs).length ≤ 5006 * xs.length) := by have := putA_length HSA.out xs.length (Nat.le_refl _); rwa [List.take_length] at this
          have d0 := (R1.out.below HB.out).c0
          rename World => wo
          go_wp2
          go_loopw [30] (fun i wr => ∃ (k : Nat), k ≤ gs.length ∧ i = .int .i64 k ∧ Lib.IsBuilder 111 5 w1.heap.size w1.heap.size (Lib.byteCells (headD false ++ putA xs ++ putG (gs.take k))) wr ∧ Below w1.heap.size w1 wr) (fun i _ => gs.length - (intOf i).toNat)
          case atStart => exact ⟨0, Nat.zero_le _, rfl, by rw [show gs.take 0 = [] from rfl]; simpa [putG] using HBD.out, HB.out⟩
          case round =>
            obtain ⟨k, hk, rfl, hbd, hb⟩ := hrel
            have HBe : Hid (Below w1.heap.size w1 wr) := hb
            have HBDe : Hid (Lib.IsBuilder 111 5 w1.heap.size w1.heap.size (Lib.byteCells (headD false ++ putA xs ++ putG (gs.take k))) wr) := hbd
            have HBw2 : Hid (Below w.heap.size w wr) := HB1.out.trans (hb.mono HB1.out.size)
            clear hb hbd
            by_cases hlt : k < gs.length
            · obtain ⟨b, off, cap9, x, hv, hbl, hx, _, e0⟩ := (HG.out.below HBw2.out).at hlt
              cases hv
              have HX : Hid (gs[k]? = some x) := hx
              have hsx := HSG.out k x hx
              have HLA : Hid ((putG (gs.take k)).length ≤ 1002 * k) := putG_length HSG.out k hk
              have HLN : Hid ((⟨#[45]⟩ : ByteArray) ++ x ++ ⟨#[10]⟩ = mkT (lineG x)) := text_of (by rw [bl_app, bl_app]; rfl)
              have HLS : Hid ((mkT (lineG x)).size ≤ 1002) := show (mkT (lineG x)).size ≤ 1002 by rw [← bl_length, bl_mk]; exact lineG_length hsx
              clear hx
              go_wp2_with fail
              rw [HLN.out]
              refine (writeString_any w1.heap.size w1.heap.size _ (mkT (lineG x)) _ HBDe.out (by rw [Lib.byteCells_length, List.length_append, List.length_append]; have := HLA.out; have := HLX.out; omega) (by have := HLS.out; omega) HBe.out.size).mono ?_
              rintro e w3 ⟨⟨v3, rfl⟩, hbd3, hb3, _⟩
              have HB3 : Hid (Below w1.heap.size w1 w3) := HBe.out.trans hb3
              have HBD3 : Hid (Lib.IsBuilder 111 5 w1.heap.size w1.heap.size (Lib.byteCells (headD false ++ putA xs ++ putG (gs.take (k + 1)))) w3) := by
                rw [putG_take HX.out, ← List.append_assoc, cells_line]
                exact hbd3
              clear hbd3 hb3
              go_wp2
              go_roundw
              case rel => exact ⟨k + 1, by omega, by go_num, HBD3.out, HB3.out⟩
              case measure => simp [intOf]; omega
            · obtain rfl : k = gs.length := by omega
              rw [List.take_length] at HBDe
              have HLY : Hid ((putG gs).length ≤ 1002 * gs.length) := by have := putG_length HSG.out gs.length (Nat.le_refl _); rwa [List.take_length] at this
              have d1 := (R1.out.below HBe.out).c1
              rename World => wp
              go_wp2
              go_loopw [42] (fun i wr => ∃ (k : Nat), k ≤ es.length ∧ i = .int .i64 k ∧ Lib.IsBuilder 111 5 w1.heap.size w1.heap.size (Lib.byteCells (headD false ++ putA xs ++ putG gs ++ putC (es.take k))) wr ∧ Below w1.heap.size w1 wr) (fun i _ => es.length - (intOf i).toNat)
              case atStart => exact ⟨0, Nat.zero_le _, rfl, by rw [show es.take 0 = [] from rfl]; simpa [putC] using HBDe.out, HBe.out⟩
              case round =>
                obtain ⟨k, hk, rfl, hbd, hb⟩ := hrel
                have HBf : Hid (Below w1.heap.size w1 wr) := hb
                have HBDf : Hid (Lib.IsBuilder 111 5 w1.heap.size w1.heap.size (Lib.byteCells (headD false ++ putA xs ++ putG gs ++ putC (es.take k))) wr) := hbd
                have HBw3 : Hid (Below w.heap.size w wr) := HB1.out.trans (hb.mono HB1.out.size)
                clear hb hbd
                by_cases hlt : k < es.length
                · obtain ⟨b, off, cap9, x, hv, hbl, hx, _, e0, e1⟩ := (HE.out.below HBw3.out).at hlt
                  cases hv
                  have HX : Hid (es[k]? = some x) := hx
                  have HSX := HSE.out k x hx
                  have HLA : Hid ((putC (es.take k)).length ≤ 2003 * k) := putC_length HSE.out k hk
                  obtain ⟨s, f⟩ := x
                  simp only at e0 e1 HSX
                  have HS1 : Hid (s.size ≤ 1000) := HSX.1
                  have HS2 : Hid (f.size ≤ 1000) := HSX.2
                  have hsz : (mkT (lineE s f)).size ≤ 2002 := by rw [← bl_length, bl_mk]; exact lineE_length HSX.1 HSX.2
                  have HLN : Hid ((⟨#[43]⟩ : ByteArray) ++ mkT (lineE s f) = mkT (lineC s f)) := text_of (by rw [bl_app, bl_mk]; rfl)
                  have HLS : Hid ((mkT (lineC s f)).size ≤ 2003) := show (mkT (lineC s f)).size ≤ 2003 by rw [← bl_length, bl_mk]; exact lineC_length HSX.1 HSX.2
                  clear hx HSX
                  go_wp2_with fail
                  refine (entryLine_any s f _ HS1.out HS2.out).mono ?_
                  rintro e w2 ⟨rfl, hb2⟩
                  have HB2 : Hid (Below wr.heap.size wr w2) := ((Below.refl _ _).alloc (Nat.le_refl _) _).trans (hb2.mono (by simp <;> omega))
                  clear hb2 e0 e1
                  go_wp2_with fail
                  rw [HLN.out]
                  refine (writeString_any w1.heap.size w1.heap.size _ (mkT (lineC s f)) _ (builder_below8 HBDf.out HB2.out) (by rw [Lib.byteCells_length, List.length_append, List.length_append, List.length_append]; have := HLA.out; have := HLX.out; have := HLY.out; omega) (by have := HLS.out; omega) (Nat.le_trans HBf.out.size HB2.out.size)).mono ?_
                  rintro e w3 ⟨⟨v3, rfl⟩, hbd3, hb3, _⟩
                  have HB3 : Hid (Below w1.heap.size w1 w3) := (HBf.out.trans (HB2.out.mono HBf.out.size)).trans hb3
                  have HBD3 : Hid (Lib.IsBuilder 111 5 w1.heap.size w1.heap.size (Lib.byteCells (headD false ++ putA xs ++ putG gs ++ putC (es.take (k + 1)))) w3) := by
                    rw [putC_take HX.out, ← List.append_assoc, cells_line]
                    exact hbd3
                  clear hbd3 hb3
                  go_wp2
                  go_roundw
                  case rel => exact ⟨k + 1, by omega, by go_num, HBD3.out, HB3.out⟩
                  case measure => simp [intOf]; omega
                · obtain rfl : k = es.length := by omega
                  rw [List.take_length] at HBDf
                  go_wp2_with fail
                  refine (Tryz.Builder_String_any _ _ (headD false ++ putA xs ++ putG gs ++ putC es) _ HBDf.out HBf.out.size).mono ?_
                  rintro e w5 ⟨rfl, hb5⟩
                  have HB5 : Hid (Below w.heap.size w w5) := HB1.out.trans ((HBf.out.trans hb5).mono HB1.out.size)
                  clear hb5
                  go_wp2
                  go_ret
                  rw [HC.out]
                  exact ⟨rfl, HB5.out⟩
    | true =>
      go_wp2_with fail
      clear hW1
      refine (writeString_any w1.heap.size w1.heap.size _ ⟨#[97, 102, 102, 105, 120, 101, 115, 10]⟩ _ I1.out (by rw [Lib.byteCells_length]; decide) (by decide) B1.out.size).mono ?_
      rintro e W2 ⟨⟨v3, rfl⟩, hbd3, hb3, _⟩
      have I2 : Hid (Lib.IsBuilder 111 5 w1.heap.size w1.heap.size (Lib.byteCells (headD true)) W2) := hbd3
      have B2 : Hid (Below w1.heap.size w1 W2) := B1.out.trans hb3
      have c3 := (R1.out.below B2.out).c3
      clear hbd3 hb3 I1 B1 R1a
      go_wp2
      go_loopw [19] (fun i wr => ∃ (k : Nat), k ≤ xs.length ∧ i = .int .i64 k ∧ Lib.IsBuilder 111 5 w1.heap.size w1.heap.size (Lib.byteCells (headD true ++ putA (xs.take k))) wr ∧ Below w1.heap.size w1 wr) (fun i _ => xs.length - (intOf i).toNat)
      case atStart => exact ⟨0, Nat.zero_le _, rfl, by simpa [putA, headD] using I2.out, B2.out⟩
      case round =>
        obtain ⟨k, hk, rfl, hbd, hb⟩ := hrel
        have HB : Hid (Below w1.heap.size w1 wr) := hb
        have HBD : Hid (Lib.IsBuilder 111 5 w1.heap.size w1.heap.size (Lib.byteCells (headD true ++ putA (xs.take k))) wr) := hbd
        have HBw : Hid (Below w.heap.size w wr) := HB1.out.trans (hb.mono HB1.out.size)
        clear hb hbd
        by_cases hlt : k < xs.length
        · obtain ⟨b, off, cap9, x, hv, hbl, hx, hxf, e0, e1, e2, e3, e4⟩ := (HA.out.below HBw.out).at hlt
          cases hv
          have HX : Hid (xs[k]? = some x) := hx
          have HSX : Hid (ShortA x) := HSA.out k x hx
          have HLA : Hid ((putA (xs.take k)).length ≤ 5006 * k) := putA_length HSA.out k hk
          have HLL : Hid ((lineA x).length ≤ 5006) := lineA_length HSX.out
          obtain ⟨f, fr, st, ad, wh⟩ := x
          simp only at e0 e1 e2 e3 e4
          clear hx hxf
          go_wp2_with fail
          refine (affixLine_any ⟨f, fr, st, ad, wh⟩ _ HSX.out).mono ?_
          rintro e w2 ⟨rfl, hb2⟩
          have HB2 : Hid (Below wr.heap.size wr w2) := ((Below.refl _ _).alloc (Nat.le_refl _) _).trans (hb2.mono (by simp <;> omega))
          clear hb2 e0 e1 e2 e3 e4
          go_wp2_with fail
          refine (writeString_any w1.heap.size w1.heap.size _ (mkT (lineA ⟨f, fr, st, ad, wh⟩)) _ (builder_below8 HBD.out HB2.out) (by rw [Lib.byteCells_length, List.length_append]; have := HLA.out; omega) (by rw [← bl_length, bl_mk]; have := HLL.out; omega) (Nat.le_trans HB.out.size HB2.out.size)).mono ?_
          rintro e w3 ⟨⟨v3, rfl⟩, hbd3, hb3, _⟩
          have HB3 : Hid (Below w1.heap.size w1 w3) := (HB.out.trans (HB2.out.mono HB.out.size)).trans hb3
          have HBD3 : Hid (Lib.IsBuilder 111 5 w1.heap.size w1.heap.size (Lib.byteCells (headD true ++ putA (xs.take (k + 1)))) w3) := by
            rw [putA_take HX.out, ← List.append_assoc, cells_line]
            exact hbd3
          clear hbd3 hb3
          go_wp2
          go_roundw
          case rel => exact ⟨k + 1, by omega, by go_num, HBD3.out, HB3.out⟩
          case measure => simp [intOf]; omega
        · obtain rfl : k = xs.length := by omega
          rw [List.take_length] at HBD
          have HLX : Hid ((putA xs).length ≤ 5006 * xs.length) := by have := putA_length HSA.out xs.length (Nat.le_refl _); rwa [List.take_length] at this
          have d0 := (R1.out.below HB.out).c0
          rename World => wo
          go_wp2
          go_loopw [30] (fun i wr => ∃ (k : Nat), k ≤ gs.length ∧ i = .int .i64 k ∧ Lib.IsBuilder 111 5 w1.heap.size w1.heap.size (Lib.byteCells (headD true ++ putA xs ++ putG (gs.take k))) wr ∧ Below w1.heap.size w1 wr) (fun i _ => gs.length - (intOf i).toNat)
          case atStart => exact ⟨0, Nat.zero_le _, rfl, by rw [show gs.take 0 = [] from rfl]; simpa [putG] using HBD.out, HB.out⟩
          case round =>
            obtain ⟨k, hk, rfl, hbd, hb⟩ := hrel
            have HBe : Hid (Below w1.heap.size w1 wr) := hb
            have HBDe : Hid (Lib.IsBuilder 111 5 w1.heap.size w1.heap.size (Lib.byteCells (headD true ++ putA xs ++ putG (gs.take k))) wr) := hbd
            have HBw2 : Hid (Below w.heap.size w wr) := HB1.out.trans (hb.mono HB1.out.size)
            clear hb hbd
            by_cases hlt : k < gs.length
            · obtain ⟨b, off, cap9, x, hv, hbl, hx, _, e0⟩ := (HG.out.below HBw2.out).at hlt
              cases hv
              have HX : Hid (gs[k]? = some x) := hx
              have hsx := HSG.out k x hx
              have HLA : Hid ((putG (gs.take k)).length ≤ 1002 * k) := putG_length HSG.out k hk
              have HLN : Hid ((⟨#[45]⟩ : ByteArray) ++ x ++ ⟨#[10]⟩ = mkT (lineG x)) := text_of (by rw [bl_app, bl_app]; rfl)
              have HLS : Hid ((mkT (lineG x)).size ≤ 1002) := show (mkT (lineG x)).size ≤ 1002 by rw [← bl_length, bl_mk]; exact lineG_length hsx
              clear hx
              go_wp2_with fail
              rw [HLN.out]
              refine (writeString_any w1.heap.size w1.heap.size _ (mkT (lineG x)) _ HBDe.out (by rw [Lib.byteCells_length, List.length_append, List.length_append]; have := HLA.out; have := HLX.out; omega) (by have := HLS.out; omega) HBe.out.size).mono ?_
              rintro e w3 ⟨⟨v3, rfl⟩, hbd3, hb3, _⟩
              have HB3 : Hid (Below w1.heap.size w1 w3) := HBe.out.trans hb3
              have HBD3 : Hid (Lib.IsBuilder 111 5 w1.heap.size w1.heap.size (Lib.byteCells (headD true ++ putA xs ++ putG (gs.take (k + 1)))) w3) := by
                rw [putG_take HX.out, ← List.append_assoc, cells_line]
                exact hbd3
              clear hbd3 hb3
              go_wp2
              go_roundw
              case rel => exact ⟨k + 1, by omega, by go_num, HBD3.out, HB3.out⟩
              case measure => simp [intOf]; omega
            · obtain rfl : k = gs.length := by omega
              rw [List.take_length] at HBDe
              have HLY : Hid ((putG gs).length ≤ 1002 * gs.length) := by have := putG_length HSG.out gs.length (Nat.le_refl _); rwa [List.take_length] at this
              have d1 := (R1.out.below HBe.out).c1
              rename World => wp
              go_wp2
              go_loopw [42] (fun i wr => ∃ (k : Nat), k ≤ es.length ∧ i = .int .i64 k ∧ Lib.IsBuilder 111 5 w1.heap.size w1.heap.size (Lib.byteCells (headD true ++ putA xs ++ putG gs ++ putC (es.take k))) wr ∧ Below w1.heap.size w1 wr) (fun i _ => es.length - (intOf i).toNat)
              case atStart => exact ⟨0, Nat.zero_le _, rfl, by rw [show es.take 0 = [] from rfl]; simpa [putC] using HBDe.out, HBe.out⟩
              case round =>
                obtain ⟨k, hk, rfl, hbd, hb⟩ := hrel
                have HBf : Hid (Below w1.heap.size w1 wr) := hb
                have HBDf : Hid (Lib.IsBuilder 111 5 w1.heap.size w1.heap.size (Lib.byteCells (headD true ++ putA xs ++ putG gs ++ putC (es.take k))) wr) := hbd
                have HBw3 : Hid (Below w.heap.size w wr) := HB1.out.trans (hb.mono HB1.out.size)
                clear hb hbd
                by_cases hlt : k < es.length
                · obtain ⟨b, off, cap9, x, hv, hbl, hx, _, e0, e1⟩ := (HE.out.below HBw3.out).at hlt
                  cases hv
                  have HX : Hid (es[k]? = some x) := hx
                  have HSX := HSE.out k x hx
                  have HLA : Hid ((putC (es.take k)).length ≤ 2003 * k) := putC_length HSE.out k hk
                  obtain ⟨s, f⟩ := x
                  simp only at e0 e1 HSX
                  have HS1 : Hid (s.size ≤ 1000) := HSX.1
                  have HS2 : Hid (f.size ≤ 1000) := HSX.2
                  have hsz : (mkT (lineE s f)).size ≤ 2002 := by rw [← bl_length, bl_mk]; exact lineE_length HSX.1 HSX.2
                  have HLN : Hid ((⟨#[43]⟩ : ByteArray) ++ mkT (lineE s f) = mkT (lineC s f)) := text_of (by rw [bl_app, bl_mk]; rfl)
                  have HLS : Hid ((mkT (lineC s f)).size ≤ 2003) := show (mkT (lineC s f)).size ≤ 2003 by rw [← bl_length, bl_mk]; exact lineC_length HSX.1 HSX.2
                  clear hx HSX
                  go_wp2_with fail
                  refine (entryLine_any s f _ HS1.out HS2.out).mono ?_
                  rintro e w2 ⟨rfl, hb2⟩
                  have HB2 : Hid (Below wr.heap.size wr w2) := ((Below.refl _ _).alloc (Nat.le_refl _) _).trans (hb2.mono (by simp <;> omega))
                  clear hb2 e0 e1
                  go_wp2_with fail
                  rw [HLN.out]
                  refine (writeString_any w1.heap.size w1.heap.size _ (mkT (lineC s f)) _ (builder_below8 HBDf.out HB2.out) (by rw [Lib.byteCells_length, List.length_append, List.length_append, List.length_append]; have := HLA.out; have := HLX.out; have := HLY.out; omega) (by have := HLS.out; omega) (Nat.le_trans HBf.out.size HB2.out.size)).mono ?_
                  rintro e w3 ⟨⟨v3, rfl⟩, hbd3, hb3, _⟩
                  have HB3 : Hid (Below w1.heap.size w1 w3) := (HBf.out.trans (HB2.out.mono HBf.out.size)).trans hb3
                  have HBD3 : Hid (Lib.IsBuilder 111 5 w1.heap.size w1.heap.size (Lib.byteCells (headD true ++ putA xs ++ putG gs ++ putC (es.take (k + 1)))) w3) := by
                    rw [putC_take HX.out, ← List.append_assoc, cells_line]
                    exact hbd3
                  clear hbd3 hb3
                  go_wp2
                  go_roundw
                  case rel => exact ⟨k + 1, by omega, by go_num, HBD3.out, HB3.out⟩
                  case measure => simp [intOf]; omega
                · obtain rfl : k = es.length := by omega
                  rw [List.take_length] at HBDf
                  go_wp2_with fail
                  refine (Tryz.Builder_String_any _ _ (headD true ++ putA xs ++ putG gs ++ putC es) _ HBDf.out HBf.out.size).mono ?_
                  rintro e w5 ⟨rfl, hb5⟩
                  have HB5 : Hid (Below w.heap.size w w5) := HB1.out.trans ((HBf.out.trans hb5).mono HB1.out.size)
                  clear hb5
                  go_wp2
                  go_ret
                  rw [HC.out]
                  exact ⟨rfl, HB5.out⟩
end Go.Proofs.YtkepmjebnkcbgaaGreatDoor
/-
  spec.l5Put, spec.DeltaPut, and the law FnExactDeltaPut.
-/
namespace Go.Proofs.YtkepmjebnkcbgaaGreatDoor
open Go.RowKit
set_option linter.unusedVariables false
set_option maxRecDepth 100000 in
set_option maxHeartbeats 4000000 in
theorem l5Put_any (w : World) (vg vc vl : Value) (af : Bool) (gs : List ByteArray) (es : List (ByteArray × ByteArray)) (xs : List Aff) (hg : TextsAt w vg gs) (he : EntsAt w vc es) (ha : AffsAt w vl xs) (hok : deltaT gs es af xs = true) :
    Calls Tryz.prog 80 #[.agg #[vg, vc, .bool af, vl]] w fun e w' => e = .returned (.string (mkT (dputL gs es af xs))) ∧ Below w.heap.size w w' := by
  obtain ⟨a, cap, rfl, hc, hm⟩ := hg.form
  obtain ⟨a', cap', rfl, hc', hm'⟩ := he.form
  obtain ⟨a2, cap2, rfl, hc2, hm2⟩ := ha.form
  have HG : Hid (TextsAt w (.slice a gs.length cap) gs) := hg
  have HE : Hid (EntsAt w (.slice a' es.length cap') es) := he
  have HA : Hid (AffsAt w (.slice a2 xs.length cap2) xs) := ha
  unfold maxLen at hm hm' hm2
  obtain ⟨⟨hl8, hl24, hlg⟩, hsa, hse, hsg⟩ := delta_parts hok
  have HSA : Hid (∀ (i : Nat) (x : Aff), xs[i]? = some x → ShortA x) := hsa
  have HSE : Hid (∀ (i : Nat) (x : ByteArray × ByteArray), es[i]? = some x → x.1.size ≤ 1000 ∧ x.2.size ≤ 1000) := hse
  have HSG : Hid (∀ (i : Nat) (x : ByteArray), gs[i]? = some x → x.size ≤ 1000) := hsg
  have HHD : Hid ((headD af).length ≤ 8) := headD_length af
  clear hsa hse hsg hok hg he ha
  obtain ⟨W0, hW0⟩ : ∃ W0, w.alloc (.cells #[.slice a gs.length cap, .slice a' es.length cap', .bool af, .slice a2 xs.length cap2] 35) = W0 := ⟨_, rfl⟩
  have B0 : Hid (Below w.heap.size w W0) := by rw [← hW0]; exact (Below.refl _ _).alloc (Nat.le_refl _) _
  have R0 : Hid (DRow W0 w.heap.size (.slice a gs.length cap) (.slice a' es.length cap') af (.slice a2 xs.length cap2)) := by rw [← hW0]; exact DRow.new _ _ _ _ _
  have c2 := R0.out.c2
  go_enter Tryz.func80, Tryz.ntmps80
  cases af with
  | false =>
    go_wp2
    clear hW0 c2
    go_loopw [3, 4] (fun o i wr => ∃ (k : Nat), k ≤ xs.length ∧ i = .int .i64 k ∧ o = .string (mkT (headD false ++ putA (xs.take k))) ∧ DRow wr w.heap.size (.slice a gs.length cap) (.slice a' es.length cap') false (.slice a2 xs.length cap2) ∧ Below w.heap.size w wr) (fun _ i _ => xs.length - (intOf i).toNat)
    case atStart => exact ⟨0, Nat.zero_le _, rfl, rfl, R0.out, B0.out⟩
    case round =>
      obtain ⟨k, hk, rfl, rfl, hR, hb⟩ := hrel
      have HB : Hid (Below w.heap.size w wr) := hb
      have HR : Hid (DRow wr w.heap.size (.slice a gs.length cap) (.slice a' es.length cap') false (.slice a2 xs.length cap2)) := hR
      have m3 := hR.c3
      clear hb hR
      by_cases hlt : k < xs.length
      · obtain ⟨b, off, cap9, x, hv, hbl, hx, hxf, e0, e1, e2, e3, e4⟩ := (HA.out.below HB.out).at hlt
        cases hv
        have HSX : Hid (ShortA x) := HSA.out k x hx
        have hla := putA_length HSA.out k hk
        have hl1 : (mkT (headD false ++ putA (xs.take k))).size ≤ 100000 := by rw [mk_size, List.length_append]; have := HHD.out; omega
        have hll := lineA_length HSX.out
        have hll2 : (mkT (accJ (affP x) 4)).size ≤ 5005 := by rw [mk_size]; unfold lineA at hll; simp at hll; omega
        have HN : Hid (mkT (headD false ++ putA (xs.take k)) ++ mkT (accJ (affP x) 4) ++ ⟨#[10]⟩ = mkT (headD false ++ putA (xs.take (k + 1)))) := text_of (by rw [bl_app, bl_app, bl_mk, bl_mk, putA_take hx]; simp only [lineA, List.append_assoc]; rfl)
        obtain ⟨f, fr, st, ad, wh⟩ := x
        simp only at e0 e1 e2 e3 e4
        clear hx hxf hll hla
        go_wp2_with fail
        refine (l2AffixPut_any ⟨f, fr, st, ad, wh⟩ _ HSX.out).mono ?_
        rintro e w2 ⟨rfl, hb2⟩
        have HB2 : Hid (Below w.heap.size w w2) := HB.out.trans (hb2.mono HB.out.size)
        have HR2 : Hid (DRow w2 w.heap.size _ _ false _) := HR.out.below hb2
        clear hb2 e0 e1 e2 e3 e4 m3
        generalize hg1 : mkT (headD false ++ putA (xs.take k)) = t1 at *
        generalize hg2 : mkT (accJ (affP ⟨f, fr, st, ad, wh⟩) 4) = t2 at *
        clear hg1 hg2
        go_wp2
        go_roundw
        case rel => exact ⟨k + 1, by omega, by go_num, by rw [← HN.out], HR2.out, HB2.out⟩
        case measure => simp [intOf]; omega
      · obtain rfl : k = xs.length := by omega
        rw [List.take_length]
        have HLX : Hid ((putA xs).length ≤ 5006 * xs.length) := by have := putA_length HSA.out xs.length (Nat.le_refl _); rwa [List.take_length] at this
        rename World => wo
        go_wp2
        go_loopw [3, 5] (fun o i wr => ∃ (k : Nat), k ≤ gs.length ∧ i = .int .i64 k ∧ o = .string (mkT (headD false ++ putA xs ++ putG (gs.take k))) ∧ DRow wr w.heap.size (.slice a gs.length cap) (.slice a' es.length cap') false (.slice a2 xs.length cap2) ∧ Below w.heap.size w wr) (fun _ i _ => gs.length - (intOf i).toNat)
        case atStart => exact ⟨0, Nat.zero_le _, rfl, by simp [putG], HR.out, HB.out⟩
        case round =>
          obtain ⟨k, hk, rfl, rfl, hR, hb⟩ := hrel
          have HBe : Hid (Below w.heap.size w wr) := hb
          have HRe : Hid (DRow wr w.heap.size (.slice a gs.length cap) (.slice a' es.length cap') false (.slice a2 xs.length cap2)) := hR
          have m0 := hR.c0
          clear hb hR
          by_cases hlt : k < gs.length
          · obtain ⟨b, off, cap9, x, hv, hbl, hx, _, e0⟩ := (HG.out.below HBe.out).at hlt
            cases hv
            have hsx := HSG.out k x hx
            have hla := putG_length HSG.out k hk
            have hl1 : (mkT (headD false ++ putA xs ++ putG (gs.take k))).size ≤ 200000 := by rw [mk_size, List.length_append, List.length_append]; have := HHD.out; have := HLX.out; omega
            have HN : Hid (mkT (headD false ++ putA xs ++ putG (gs.take k)) ++ ⟨#[45]⟩ ++ x ++ ⟨#[10]⟩ = mkT (headD false ++ putA xs ++ putG (gs.take (k + 1)))) := text_of (by rw [bl_app, bl_app, bl_app, bl_mk, putG_take hx]; simp only [lineG, List.append_assoc]; rfl)
            clear hx hla
            generalize hg1 : mkT (headD false ++ putA xs ++ putG (gs.take k)) = t1 at *
            clear hg1
            go_wp2
            go_roundw
            case rel => exact ⟨k + 1, by omega, by go_num, by rw [← HN.out], HRe.out, HBe.out⟩
            case measure => simp [intOf]; omega
          · obtain rfl : k = gs.length := by omega
            rw [List.take_length]
            have HLY : Hid ((putG gs).length ≤ 1002 * gs.length) := by have := putG_length HSG.out gs.length (Nat.le_refl _); rwa [List.take_length] at this
            rename World => wp
            go_wp2
            go_loopw [3, 6] (fun o i wr => ∃ (k : Nat), k ≤ es.length ∧ i = .int .i64 k ∧ o = .string (mkT (headD false ++ putA xs ++ putG gs ++ putC (es.take k))) ∧ DRow wr w.heap.size (.slice a gs.length cap) (.slice a' es.length cap') false (.slice a2 xs.length cap2) ∧ Below w.heap.size w wr) (fun _ i _ => es.length - (intOf i).toNat)
            case atStart => exact ⟨0, Nat.zero_le _, rfl, by simp [putC], HRe.out, HBe.out⟩
            case round =>
              obtain ⟨k, hk, rfl, rfl, hR, hb⟩ := hrel
              have HBf : Hid (Below w.heap.size w wr) := hb
              have HRf : Hid (DRow wr w.heap.size (.slice a gs.length cap) (.slice a' es.length cap') false (.slice a2 xs.length cap2)) := hR
              have m1 := hR.c1
              clear hb hR
              by_cases hlt : k < es.length
              · obtain ⟨b, off, cap9, x, hv, hbl, hx, _, e0, e1⟩ := (HE.out.below HBf.out).at hlt
                cases hv
                have HSX := HSE.out k x hx
                have hla := putC_length HSE.out k hk
                have hl1 : (mkT (headD false ++ putA xs ++ putG gs ++ putC (es.take k))).size ≤ 300000 := by rw [mk_size, List.length_append, List.length_append, List.length_append]; have := HHD.out; have := HLX.out; have := HLY.out; omega
                have hlt2 : (mkT (entL x.1 x.2)).size ≤ 2001 := by rw [mk_size]; exact entL_length HSX.1 HSX.2
                have HN : Hid (mkT (headD false ++ putA xs ++ putG gs ++ putC (es.take k)) ++ ⟨#[43]⟩ ++ mkT (entL x.1 x.2) ++ ⟨#[10]⟩ = mkT (headD false ++ putA xs ++ putG gs ++ putC (es.take (k + 1)))) := text_of (by
                  rw [bl_app, bl_app, bl_app, bl_mk, bl_mk, putC_take hx]
                  unfold lineC
                  rw [← entL_line]
                  simp only [List.append_assoc]
                  rfl)
                obtain ⟨s, f⟩ := x
                simp only at e0 e1 HSX hlt2 HN
                have HS1 : Hid (s.size ≤ 1000) := HSX.1
                have HS2 : Hid (f.size ≤ 1000) := HSX.2
                clear hx hla HSX
                generalize hg1 : mkT (headD false ++ putA xs ++ putG gs ++ putC (es.take k)) = t1 at *
                clear hg1
                go_wp2_with fail
                refine (l2EntryPut_any s f _ HS1.out HS2.out).mono ?_
                rintro e w2 ⟨rfl, hb2⟩
                have HB2 : Hid (Below w.heap.size w w2) := HBf.out.trans (hb2.mono HBf.out.size)
                have HR2 : Hid (DRow w2 w.heap.size _ _ false _) := HRf.out.below hb2
                clear hb2 e0 e1 m1
                generalize hg2 : mkT (entL s f) = t2 at *
                clear hg2
                go_wp2
                go_roundw
                case rel => exact ⟨k + 1, by omega, by go_num, by rw [← HN.out], HR2.out, HB2.out⟩
                case measure => simp [intOf]; omega
              · obtain rfl : k = es.length := by omega
                rw [List.take_length]
                go_wp2
                go_ret
                exact ⟨rfl, HBf.out⟩
  | true =>
    go_wp2
    clear hW0 c2
    go_loopw [3, 4] (fun o i wr => ∃ (k : Nat), k ≤ xs.length ∧ i = .int .i64 k ∧ o = .string (mkT (headD true ++ putA (xs.take k))) ∧ DRow wr w.heap.size (.slice a gs.length cap) (.slice a' es.length cap') true (.slice a2 xs.length cap2) ∧ Below w.heap.size w wr) (fun _ i _ => xs.length - (intOf i).toNat)
    case atStart => exact ⟨0, Nat.zero_le _, rfl, rfl, R0.out, B0.out⟩
    case round =>
      obtain ⟨k, hk, rfl, rfl, hR, hb⟩ := hrel
      have HB : Hid (Below w.heap.size w wr) := hb
      have HR : Hid (DRow wr w.heap.size (.slice a gs.length cap) (.slice a' es.length cap') true (.slice a2 xs.length cap2)) := hR
      have m3 := hR.c3
      clear hb hR
      by_cases hlt : k < xs.length
      · obtain ⟨b, off, cap9, x, hv, hbl, hx, hxf, e0, e1, e2, e3, e4⟩ := (HA.out.below HB.out).at hlt
        cases hv
        have HSX : Hid (ShortA x) := HSA.out k x hx
        have hla := putA_length HSA.out k hk
        have hl1 : (mkT (headD true ++ putA (xs.take k))).size ≤ 100000 := by rw [mk_size, List.length_append]; have := HHD.out; omega
        have hll := lineA_length HSX.out
        have hll2 : (mkT (accJ (affP x) 4)).size ≤ 5005 := by rw [mk_size]; unfold lineA at hll; simp at hll; omega
        have HN : Hid (mkT (headD true ++ putA (xs.take k)) ++ mkT (accJ (affP x) 4) ++ ⟨#[10]⟩ = mkT (headD true ++ putA (xs.take (k + 1)))) := text_of (by rw [bl_app, bl_app, bl_mk, bl_mk, putA_take hx]; simp only [lineA, List.append_assoc]; rfl)
        obtain ⟨f, fr, st, ad, wh⟩ := x
        simp only at e0 e1 e2 e3 e4
        clear hx hxf hll hla
        go_wp2_with fail
        refine (l2AffixPut_any ⟨f, fr, st, ad, wh⟩ _ HSX.out).mono ?_
        rintro e w2 ⟨rfl, hb2⟩
        have HB2 : Hid (Below w.heap.size w w2) := HB.out.trans (hb2.mono HB.out.size)
        have HR2 : Hid (DRow w2 w.heap.size _ _ true _) := HR.out.below hb2
        clear hb2 e0 e1 e2 e3 e4 m3
        generalize hg1 : mkT (headD true ++ putA (xs.take k)) = t1 at *
        generalize hg2 : mkT (accJ (affP ⟨f, fr, st, ad, wh⟩) 4) = t2 at *
        clear hg1 hg2
        go_wp2
        go_roundw
        case rel => exact ⟨k + 1, by omega, by go_num, by rw [← HN.out], HR2.out, HB2.out⟩
        case measure => simp [intOf]; omega
      · obtain rfl : k = xs.length := by omega
        rw [List.take_length]
        have HLX : Hid ((putA xs).length ≤ 5006 * xs.length) := by have := putA_length HSA.out xs.length (Nat.le_refl _); rwa [List.take_length] at this
        rename World => wo
        go_wp2
        go_loopw [3, 5] (fun o i wr => ∃ (k : Nat), k ≤ gs.length ∧ i = .int .i64 k ∧ o = .string (mkT (headD true ++ putA xs ++ putG (gs.take k))) ∧ DRow wr w.heap.size (.slice a gs.length cap) (.slice a' es.length cap') true (.slice a2 xs.length cap2) ∧ Below w.heap.size w wr) (fun _ i _ => gs.length - (intOf i).toNat)
        case atStart => exact ⟨0, Nat.zero_le _, rfl, by simp [putG], HR.out, HB.out⟩
        case round =>
          obtain ⟨k, hk, rfl, rfl, hR, hb⟩ := hrel
          have HBe : Hid (Below w.heap.size w wr) := hb
          have HRe : Hid (DRow wr w.heap.size (.slice a gs.length cap) (.slice a' es.length cap') true (.slice a2 xs.length cap2)) := hR
          have m0 := hR.c0
          clear hb hR
          by_cases hlt : k < gs.length
          · obtain ⟨b, off, cap9, x, hv, hbl, hx, _, e0⟩ := (HG.out.below HBe.out).at hlt
            cases hv
            have hsx := HSG.out k x hx
            have hla := putG_length HSG.out k hk
            have hl1 : (mkT (headD true ++ putA xs ++ putG (gs.take k))).size ≤ 200000 := by rw [mk_size, List.length_append, List.length_append]; have := HHD.out; have := HLX.out; omega
            have HN : Hid (mkT (headD true ++ putA xs ++ putG (gs.take k)) ++ ⟨#[45]⟩ ++ x ++ ⟨#[10]⟩ = mkT (headD true ++ putA xs ++ putG (gs.take (k + 1)))) := text_of (by rw [bl_app, bl_app, bl_app, bl_mk, putG_take hx]; simp only [lineG, List.append_assoc]; rfl)
            clear hx hla
            generalize hg1 : mkT (headD true ++ putA xs ++ putG (gs.take k)) = t1 at *
            clear hg1
            go_wp2
            go_roundw
            case rel => exact ⟨k + 1, by omega, by go_num, by rw [← HN.out], HRe.out, HBe.out⟩
            case measure => simp [intOf]; omega
          · obtain rfl : k = gs.length := by omega
            rw [List.take_length]
            have HLY : Hid ((putG gs).length ≤ 1002 * gs.length) := by have := putG_length HSG.out gs.length (Nat.le_refl _); rwa [List.take_length] at this
            rename World => wp
            go_wp2
            go_loopw [3, 6] (fun o i wr => ∃ (k : Nat), k ≤ es.length ∧ i = .int .i64 k ∧ o = .string (mkT (headD true ++ putA xs ++ putG gs ++ putC (es.take k))) ∧ DRow wr w.heap.size (.slice a gs.length cap) (.slice a' es.length cap') true (.slice a2 xs.length cap2) ∧ Below w.heap.size w wr) (fun _ i _ => es.length - (intOf i).toNat)
            case atStart => exact ⟨0, Nat.zero_le _, rfl, by simp [putC], HRe.out, HBe.out⟩
            case round =>
              obtain ⟨k, hk, rfl, rfl, hR, hb⟩ := hrel
              have HBf : Hid (Below w.heap.size w wr) := hb
              have HRf : Hid (DRow wr w.heap.size (.slice a gs.length cap) (.slice a' es.length cap') true (.slice a2 xs.length cap2)) := hR
              have m1 := hR.c1
              clear hb hR
              by_cases hlt : k < es.length
              · obtain ⟨b, off, cap9, x, hv, hbl, hx, _, e0, e1⟩ := (HE.out.below HBf.out).at hlt
                cases hv
                have HSX := HSE.out k x hx
                have hla := putC_length HSE.out k hk
                have hl1 : (mkT (headD true ++ putA xs ++ putG gs ++ putC (es.take k))).size ≤ 300000 := by rw [mk_size, List.length_append, List.length_append, List.length_append]; have := HHD.out; have := HLX.out; have := HLY.out; omega
                have hlt2 : (mkT (entL x.1 x.2)).size ≤ 2001 := by rw [mk_size]; exact entL_length HSX.1 HSX.2
                have HN : Hid (mkT (headD true ++ putA xs ++ putG gs ++ putC (es.take k)) ++ ⟨#[43]⟩ ++ mkT (entL x.1 x.2) ++ ⟨#[10]⟩ = mkT (headD true ++ putA xs ++ putG gs ++ putC (es.take (k + 1)))) := text_of (by
                  rw [bl_app, bl_app, bl_app, bl_mk, bl_mk, putC_take hx]
                  unfold lineC
                  rw [← entL_line]
                  simp only [List.append_assoc]
                  rfl)
                obtain ⟨s, f⟩ := x
                simp only at e0 e1 HSX hlt2 HN
                have HS1 : Hid (s.size ≤ 1000) := HSX.1
                have HS2 : Hid (f.size ≤ 1000) := HSX.2
                clear hx hla HSX
                generalize hg1 : mkT (headD true ++ putA xs ++ putG gs ++ putC (es.take k)) = t1 at *
                clear hg1
                go_wp2_with fail
                refine (l2EntryPut_any s f _ HS1.out HS2.out).mono ?_
                rintro e w2 ⟨rfl, hb2⟩
                have HB2 : Hid (Below w.heap.size w w2) := HBf.out.trans (hb2.mono HBf.out.size)
                have HR2 : Hid (DRow w2 w.heap.size _ _ true _) := HRf.out.below hb2
                clear hb2 e0 e1 m1
                generalize hg2 : mkT (entL s f) = t2 at *
                clear hg2
                go_wp2
                go_roundw
                case rel => exact ⟨k + 1, by omega, by go_num, by rw [← HN.out], HR2.out, HB2.out⟩
                case measure => simp [intOf]; omega
              · obtain rfl : k = es.length := by omega
                rw [List.take_length]
                go_wp2
                go_ret
                exact ⟨rfl, HBf.out⟩
end Go.Proofs.YtkepmjebnkcbgaaGreatDoor
