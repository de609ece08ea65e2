/-
  FrontPut of both.
-/
import Derived.Test.YtbfljjiaadhnmaaDoorW415
import Derived.Test.YtbfljjiaadhnmaaDoorGW3
import Derived.Test.YtbfljjiaadhnmaaDoorW80
import Derived.Test.YtbfljjiaadhnmaaDoorW441
import Derived.Test.YtbfljjiaadhnmaaDoorW189
import Derived.Test.YtbfljjiaadhnmaaDoorShelf
namespace Go.Proofs.YtbfljjiaadhnmaaDoor
open Go.RowKit
set_option linter.unusedVariables false
theorem builder_below440 {T e : TypeId} {B b : Nat} {bs : List Value} {w w' : World} (h : Lib.IsBuilder T e B b bs w) (hb : Below w.heap.size w w') : Lib.IsBuilder T e B b bs w' := by
  have key : ∀ p, Lib.BuilderAt T e B b p bs w → Lib.BuilderAt T e B b p bs w' := by
    rintro p ⟨hB, v, hbk, hown, hne⟩
    have hlt : b < w.heap.size := (Array.getElem?_eq_some_iff.1 hbk).1
    refine ⟨hB, v, (hb.block b hlt).trans hbk, ⟨hown.1, ?_⟩, hne⟩
    rcases hown.2 with h2 | ⟨g, cap, cur, hv, hg, hh, r⟩
    · exact .inl h2
    · have hg2 : g < w.heap.size := (Array.getElem?_eq_some_iff.1 hh).1
      exact .inr ⟨g, cap, cur, hv, hg, (hb.block g hg2).trans hh, r⟩
  exact h.imp (key _) (key _)
theorem wpAny_takeD440 {P : Program} {md : Region.Mode} {ops : Array Oper} {Q : Exit → Act → World → Prop} {i d : Nat} {oi : Oper} {v : Value} {fuel : Nat} {listed : Array Bool} {a : Act} {w : World} (hi : ops[i]? = some oi)
    (hs : Region.noSelect ops = true) (hf : Region.free md ops listed i = true) (hr : (Region.ready md ops listed).contains i = true)
    (hQ : ∀ c a w, Q (.panic c) (a.put oi.dst v) w → Q (.panic c) a w) (hy : Yields P ops oi v a) (hd : oi.dst = some d)
    (h : wpAny P md ops Q fuel (listed.setIfInBounds i true) (a.put (some d) v) w) : wpAny P md ops Q (fuel + 1) listed a w :=
  wpAny_take hi hs hf hr hQ hy (by rw [hd]; exact h)
/-- How long the common beginning of two texts is; a figure; a line. -/
def cpA (a b : ByteArray) : Nat := cpl a.data.toList b.data.toList
def dgA (n : Nat) : ByteArray := ⟨(Lib.decDigits n).toArray⟩
def lineF (a b : ByteArray) : ByteArray := dgA (cpA a b) ++ b.extract (cpA a b) b.size ++ ⟨#[10]⟩
def prevW (ws : List ByteArray) : Nat → ByteArray
  | 0 => ⟨#[]⟩
  | k + 1 => (ws[k]?).getD ⟨#[]⟩
def frontsA (ws : List ByteArray) : Nat → ByteArray
  | 0 => ⟨#[]⟩
  | k + 1 => frontsA ws k ++ lineF (prevW ws k) (prevW ws (k + 1))
noncomputable def fputT (ws : List ByteArray) : ByteArray := if listT ws = true then frontsA ws ws.length else ⟨#[]⟩
theorem prevW_succ {ws : List ByteArray} {k : Nat} {s : ByteArray} (h : ws[k]? = some s) : prevW ws (k + 1) = s := by
  show (ws[k]?).getD _ = _
  rw [h]; rfl
theorem wok_sz440 {s : ByteArray} (h : wok s = true) : s.size ≤ 12 := by
  unfold wok at h
  simp only [Bool.and_eq_true, decide_eq_true_eq] at h
  omega
theorem good_size {ws : List ByteArray} (h : ListGood ws) {k : Nat} {s : ByteArray} (hs : ws[k]? = some s) : s.size ≤ 12 := wok_sz440 (h.2.1 k s (List.getElem?_eq_some_iff.1 hs).1 hs)
theorem prevW_size {ws : List ByteArray} (h : ListGood ws) (k : Nat) : (prevW ws k).size ≤ 12 := by
  cases k with
  | zero => exact Nat.zero_le _
  | succ k =>
    cases hk : ws[k]? with
    | none => show ((ws[k]?).getD _).size ≤ 12; rw [hk]; exact Nat.zero_le _
    | some s => rw [prevW_succ hk]; exact good_size h hk
theorem cpA_le (a b : ByteArray) : cpA a b ≤ a.size := by have := cpl_le_left a.data.toList b.data.toList; simpa [cpA] using this
theorem cpA_le2 (a b : ByteArray) : cpA a b ≤ b.size := by unfold cpA; rw [cpl_comm]; have := cpl_le_left b.data.toList a.data.toList; simpa using this
theorem dgA_size {n : Nat} (h : n ≤ 12) : (dgA n).size ≤ 2 := by
  show (Lib.decDigits n).toArray.size ≤ 2
  by_cases h1 : n < 10
  · rw [Lib.decDigits_one h1]; simp
  · rw [Lib.decDigits_two h1 (by omega)]; simp
theorem rest_size (b : ByteArray) (m : Nat) : (b.extract m b.size).size ≤ b.size := by simp
theorem lineF_size {a b : ByteArray} (ha : a.size ≤ 12) (hb : b.size ≤ 12) : (lineF a b).size ≤ 15 := by
  have h1 := dgA_size (n := cpA a b) (by have := cpA_le a b; omega)
  have h2 := rest_size b (cpA a b)
  have h3 : (⟨#[10]⟩ : ByteArray).size = 1 := rfl
  unfold lineF
  rw [ByteArray.size_append, ByteArray.size_append, h3]
  omega
theorem frontsA_size {ws : List ByteArray} (h : ListGood ws) : ∀ k, (frontsA ws k).size ≤ 15 * k
  | 0 => Nat.le_refl _
  | k + 1 => by
    have h1 := frontsA_size h k
    have h2 := lineF_size (prevW_size h k) (prevW_size h (k + 1))
    rw [frontsA, ByteArray.size_append]
    omega
theorem cells_app440 (a b : ByteArray) : Lib.byteCells (a ++ b).data.toList = Lib.byteCells a.data.toList ++ Lib.strCells b := by
  show _ = _ ++ Lib.byteCells b.data.toList
  simp [Lib.byteCells, ByteArray.data_append]
set_option maxRecDepth 100000 in
set_option maxHeartbeats 4000000 in
theorem implFrontPut_any (w : World) (v : Value) (ws : List ByteArray) (h : TextsAt w v ws) :
    Calls Tryd.prog 7 #[v] w fun e w' => e = .returned (.string (fputT ws)) ∧ Below w.heap.size w w' := by
  obtain ⟨a, cap, rfl, hc, hm⟩ := h.form
  have HA : Hid (TextsAt w (.slice a ws.length cap) ws) := h
  clear h
  unfold maxLen at hm
  cases hl : listT ws with
  | false =>
    have HF : Hid (fputT ws = ⟨#[]⟩) := by show _ = _; unfold fputT; rw [hl]; rfl
    go_enter Tryd.func7, Tryd.ntmps7
    go_wp2_with fail
    refine (listOk_any _ _ ws HA.out).mono ?_
    rintro e w1 ⟨rfl, hb1⟩
    rw [hl]
    have HB1 : Hid (Below w.heap.size w w1) := hb1
    clear hb1
    go_wp2
    go_ret
    rw [HF.out]
    exact ⟨rfl, HB1.out⟩
  | true =>
    have HF : Hid (fputT ws = frontsA ws ws.length) := by show _ = _; unfold fputT; rw [hl, if_pos rfl]
    have HG : Hid (ListGood ws) := listT_good hl
    have h300 : ws.length ≤ 300 := HG.out.1
    go_enter Tryd.func7, Tryd.ntmps7
    go_wp2_with fail
    refine (listOk_any _ _ ws HA.out).mono ?_
    rintro e w1 ⟨rfl, hb1⟩
    rw [hl]
    have HB1 : Hid (Below w.heap.size w w1) := hb1
    clear hb1 hl
    go_wp2_with fail
    have HBD0 : Hid (Lib.IsBuilder 33 5 w1.heap.size w1.heap.size [] (w1.alloc (.cells #[.pointer none, .slice none 0 0] 33))) := .inl ⟨Nat.le_refl _, .slice none 0 0, Go.Deep.blk_alloc_new _ _, World.ownsRow_nil .., by simp [Value.ownBlock]⟩
    have HX1 : Hid (Below w1.heap.size w1 (w1.alloc (.cells #[.pointer none, .slice none 0 0] 33))) := (Below.refl _ _).alloc (Nat.le_refl _) _
    go_loopw [4, 13] (fun x i wr => ∃ (k : Nat), k ≤ ws.length ∧ x = .string (prevW ws k) ∧ i = .int .i64 k ∧ Lib.IsBuilder 33 5 w1.heap.size w1.heap.size (Lib.byteCells (frontsA ws k).data.toList) wr ∧ Below w1.heap.size w1 wr) (fun _ i _ => ws.length - (intOf i).toNat)
    case atStart => exact ⟨0, Nat.zero_le _, rfl, rfl, HBD0.out, HX1.out⟩
    case round =>
      obtain ⟨k, hk, rfl, rfl, hbd, hb⟩ := hrel
      have HB : Hid (Below w1.heap.size w1 wr) := hb
      have HBD : Hid (Lib.IsBuilder 33 5 w1.heap.size w1.heap.size (Lib.byteCells (frontsA ws k).data.toList) wr) := hbd
      have HBw : Hid (Below w.heap.size w wr) := HB1.out.trans (hb.mono HB1.out.size)
      clear hb hbd
      by_cases hlt : k < ws.length
      · obtain ⟨b, off, cap1, s, hv, hbl, hs, hsf, c0⟩ := (HA.out.below HBw.out).at (k := k) hlt
        cases hv
        obtain ⟨P, hP⟩ : ∃ x, prevW ws k = x := ⟨_, rfl⟩
        have hPs : P.size ≤ 12 := by rw [← hP]; exact prevW_size HG.out k
        have hss : s.size ≤ 12 := good_size HG.out hs
        have HNX : Hid (frontsA ws (k + 1) = frontsA ws k ++ lineF P s) := by show _ = _; rw [frontsA, prevW_succ hs, hP]
        have HPV : Hid (prevW ws (k + 1) = s) := prevW_succ hs
        have hfs := frontsA_size HG.out k
        rw [hP]
        obtain ⟨m, hmm⟩ : ∃ x, cpA P s = x := ⟨_, rfl⟩
        have hm1 : m ≤ P.size := by rw [← hmm]; exact cpA_le P s
        have hm2 : m ≤ s.size := by rw [← hmm]; exact cpA_le2 P s
        have hmi : (m : Int) ≤ s.size := by omega
        obtain ⟨E, hE⟩ : ∃ x, P.extract 0 m = x := ⟨_, rfl⟩
        have hEs : E.size = m := by rw [← hE]; simp; omega
        obtain ⟨D, hD⟩ : ∃ x, dgA m = x := ⟨_, rfl⟩
        have hDs : D.size ≤ 2 := by rw [← hD]; exact dgA_size (by omega)
        obtain ⟨R, hR⟩ : ∃ x, s.extract m s.size = x := ⟨_, rfl⟩
        have hRs : R.size ≤ 12 := by rw [← hR]; have := rest_size s m; omega
        have HLF : Hid (lineF P s = D ++ R ++ ⟨#[10]⟩) := by show _ = _; unfold lineF; rw [hmm, hD, hR]
        have HBG : Hid (∀ w0, Calls Tryd.prog 13 #[.string P, .string s] w0 fun e w' => e = .returned (.string E) ∧ Below w0.heap.size w0 w') := fun w0 => by rw [← hE, ← hmm]; exact beginning_any P s w0 (by unfold maxLen; omega) (by unfold maxLen; omega)
        have HIT : Hid (∀ w0, Calls Tryd.prog 15 #[.int .i64 (m : Int)] w0 fun e w' => e = .returned (.string D) ∧ w' = w0) := fun w0 => by rw [← hD]; exact Tryd.strconv_Itoa_small m (by omega) w0
        obtain ⟨U, hU⟩ : ∃ x, D ++ R = x := ⟨_, rfl⟩
        have hUs : U.size ≤ 14 := by rw [← hU, ByteArray.size_append]; omega
        obtain ⟨L, hL⟩ : ∃ x, U ++ ⟨#[10]⟩ = x := ⟨_, rfl⟩
        have hLs : L.size ≤ 15 := by rw [← hL, ByteArray.size_append]; have : (⟨#[10]⟩ : ByteArray).size = 1 := rfl; omega
        have HLL : Hid (lineF P s = L) := by show _ = _; rw [HLF.out, hU, hL]
        have hnl : (⟨#[10]⟩ : ByteArray).size = 1 := rfl
        have r1 : ∀ w : World, (Op.stringOp .add D R).run Tryd.prog w = .ok (.string U) w := fun w => by rw [run_string_add_sum w _ _ (by omega), hU]
        have r2 : ∀ w : World, (Op.stringOp .add U ⟨#[10]⟩).run Tryd.prog w = .ok (.string L) w := fun w => by rw [run_string_add_sum w _ _ (by omega), hL]
        clear hP hE hD hU hL hs hsf hmm
        go_wp2_with fail
        refine (HBG.out _).mono ?_
        rintro e w4 ⟨rfl, hb4⟩
        have HB4 : Hid (Below wr.heap.size wr w4) := hb4
        clear hb4 c0
        go_wp2_with fail
        try rw [hEs]
        refine wp_region_any (by kernel_rfl) ?_
        change wpAny _ _ _ _ _ _ _ (World.drew _)
        refine wpAny_takeD440 (i := 0) (d := 21) (v := .int .i64 (m : Int)) rfl (by kernel_rfl) (by kernel_rfl) (by kernel_rfl) (fun _ _ _ h => h) (Or.inl ⟨by rfl, by intro w; go_simp⟩) rfl ?_
        simp only [Act.put, List.setIfInBounds_toArray, List.set_cons_zero, List.set_cons_succ]
        refine wpAny_takeD440 (i := 2) (d := 23) (v := .string s) rfl (by kernel_rfl) (by kernel_rfl) (by kernel_rfl) (fun _ _ _ h => h) (Or.inl ⟨by rfl, by intro w; go_simp⟩) rfl ?_
        simp only [Act.put, List.setIfInBounds_toArray, List.set_cons_zero, List.set_cons_succ]
        refine wpAny_takeD440 (i := 3) (d := 24) (v := .int .i64 (m : Int)) rfl (by kernel_rfl) (by kernel_rfl) (by kernel_rfl) (fun _ _ _ h => h) (Or.inl ⟨by rfl, by intro w; go_simp⟩) rfl ?_
        simp only [Act.put, List.setIfInBounds_toArray, List.set_cons_zero, List.set_cons_succ]
        refine wpAny_takeD440 (i := 4) (d := 25) (v := .string R) rfl (by kernel_rfl) (by kernel_rfl) (by kernel_rfl) (fun _ _ _ h => h) (Or.inl ⟨by rfl, by intro w; go_simp⟩) rfl ?_
        simp only [Act.put, List.setIfInBounds_toArray, List.set_cons_zero, List.set_cons_succ]
        refine wpAny_ready (rs := [1]) (by kernel_rfl) (by simp) ?_
        refine AllReady.cons rfl (fun K hK => ?_) AllReady.nil
        go_simp
        refine (HIT.out _).mono ?_
        rintro e w5 ⟨rfl, hw5⟩
        have HQ5 : Hid (Below wr.heap.size wr w5) := by rw [hw5]; exact below_dn415 HB4.out 1
        clear hw5
        refine hK _ _ ?_
        clear hK K
        refine wpAny_takeD440 (i := 5) (d := 26) (v := .string U) rfl (by kernel_rfl) (by kernel_rfl) (by kernel_rfl) (fun _ _ _ h => h) (Or.inl ⟨by rfl, by intro w; go_simp⟩) rfl ?_
        simp only [Act.put, List.setIfInBounds_toArray, List.set_cons_zero, List.set_cons_succ]
        refine wpAny_takeD440 (i := 6) (d := 27) (v := .string L) rfl (by kernel_rfl) (by kernel_rfl) (by kernel_rfl) (fun _ _ _ h => h) (Or.inl ⟨by rfl, by intro w; go_simp⟩) rfl ?_
        simp only [Act.put, List.setIfInBounds_toArray, List.set_cons_zero, List.set_cons_succ]
        refine wpAny_ready (rs := [7]) (by kernel_rfl) (by simp) ?_
        refine AllReady.cons rfl (fun K hK => ?_) AllReady.nil
        go_simp
        refine (writeString_any w1.heap.size w1.heap.size _ L _ (builder_below440 HBD.out HQ5.out) (by rw [Lib.byteCells_length]; simp; omega) (by omega) (Nat.le_trans HB.out.size HQ5.out.size)).mono ?_
        rintro e w6 ⟨⟨v6, rfl⟩, hbd6, hb6, _⟩
        have HB6 : Hid (Below w1.heap.size w1 w6) := (HB.out.trans (HQ5.out.mono HB.out.size)).trans hb6
        have HBD6 : Hid (Lib.IsBuilder 33 5 w1.heap.size w1.heap.size (Lib.byteCells (frontsA ws (k + 1)).data.toList) w6) := by rw [HNX.out, HLL.out, cells_app440]; exact hbd6
        clear hbd6 hb6
        refine hK _ _ ?_
        clear hK K
        refine wpAny_done (by kernel_rfl) ?_ _
        go_wp2
        go_roundw
        case rel => exact ⟨k + 1, by omega, by rw [HPV.out], by go_num, HBD6.out, HB6.out⟩
        case measure => simp [intOf]; omega
      · have hke : k = ws.length := by omega
        have HBF : Hid (Lib.IsBuilder 33 5 w1.heap.size w1.heap.size (Lib.byteCells (frontsA ws ws.length).data.toList) wr) := by rw [← hke]; exact HBD.out
        subst hke
        go_wp2_with fail
        refine (Tryd.Builder_String_any _ _ (frontsA ws ws.length).data.toList _ HBF.out HB.out.size).mono ?_
        rintro e w7 ⟨rfl, hb7⟩
        have HB7 : Hid (Below w.heap.size w w7) := HB1.out.trans ((HB.out.trans hb7).mono HB1.out.size)
        clear hb7
        go_wp2
        go_ret
        rw [HF.out]
        exact ⟨rfl, HB7.out⟩
set_option maxRecDepth 100000 in
set_option maxHeartbeats 4000000 in
theorem specFrontPut_any (w : World) (v : Value) (ws : List ByteArray) (h : TextsAt w v ws) :
    Calls Tryd.prog 5 #[v] w fun e w' => e = .returned (.string (fputT ws)) ∧ Below w.heap.size w w' := by
  obtain ⟨a, cap, rfl, hc, hm⟩ := h.form
  have HA : Hid (TextsAt w (.slice a ws.length cap) ws) := h
  clear h
  unfold maxLen at hm
  cases hl : listT ws with
  | false =>
    have HF : Hid (fputT ws = ⟨#[]⟩) := by show _ = _; unfold fputT; rw [hl]; rfl
    have HL : Hid (listT ws = false) := hl
    have h0 : 0 < ws.length := (Nat.eq_zero_or_pos ws.length).resolve_left fun h => by rw [listT_t ⟨by omega, by rw [h]; exact WordsTo.zero ws⟩] at hl; cases hl
    have h0i : (0 : Int) < ws.length := by omega
    clear hl
    go_enter Tryd.func5, Tryd.ntmps5
    go_wp2_with fail
    go_loopw [3, 4, 5] (fun x l i wr => x = .string ⟨#[]⟩ ∧ l = .string ⟨#[]⟩ ∧ i = .int .i64 0 ∧ Below w.heap.size w wr) (fun _ _ _ _ => 0)
    case atStart => exact ⟨rfl, rfl, rfl, Below.refl _ _⟩
    case round =>
      obtain ⟨rfl, rfl, rfl, hb⟩ := hrel
      have HB : Hid (Below w.heap.size w wr) := hb
      clear hb
      go_wp2_with fail
      refine (l3Words_any _ _ ws (HA.out.below HB.out)).mono ?_
      rintro e w2 ⟨rfl, hb2⟩
      rw [HL.out]
      have HB2 : Hid (Below w.heap.size w w2) := HB.out.trans (hb2.mono HB.out.size)
      clear hb2
      go_wp2
      go_ret
      rw [HF.out]
      exact ⟨rfl, HB2.out⟩
  | true =>
    have HF : Hid (fputT ws = frontsA ws ws.length) := by show _ = _; unfold fputT; rw [hl, if_pos rfl]
    have HG : Hid (ListGood ws) := listT_good hl
    have h300 : ws.length ≤ 300 := HG.out.1
    have HL : Hid (listT ws = true) := hl
    clear hl
    go_enter Tryd.func5, Tryd.ntmps5
    go_wp2_with fail
    go_loopw [3, 4, 5] (fun x l i wr => ∃ (k : Nat), k ≤ ws.length ∧ x = .string (frontsA ws k) ∧ l = .string (prevW ws k) ∧ i = .int .i64 k ∧ Below w.heap.size w wr) (fun _ _ i _ => ws.length - (intOf i).toNat)
    case atStart => exact ⟨0, Nat.zero_le _, rfl, rfl, rfl, Below.refl _ _⟩
    case round =>
      obtain ⟨k, hk, rfl, rfl, rfl, hb⟩ := hrel
      have HB : Hid (Below w.heap.size w wr) := hb
      clear hb
      by_cases hlt : k < ws.length
      · have hki : (k : Int) < ws.length := by omega
        obtain ⟨b, off, cap1, s, hv, hbl, hs, hsf, c0⟩ := (HA.out.below HB.out).at (k := k) hlt
        cases hv
        obtain ⟨P, hP⟩ : ∃ x, prevW ws k = x := ⟨_, rfl⟩
        have hPs : P.size ≤ 12 := by rw [← hP]; exact prevW_size HG.out k
        have hss : s.size ≤ 12 := good_size HG.out hs
        have HNX : Hid (frontsA ws (k + 1) = frontsA ws k ++ lineF P s) := by show _ = _; rw [frontsA, prevW_succ hs, hP]
        have HPV : Hid (prevW ws (k + 1) = s) := prevW_succ hs
        have hfs := frontsA_size HG.out k
        rw [hP]
        obtain ⟨m, hmm⟩ : ∃ x, cpA P s = x := ⟨_, rfl⟩
        have hm1 : m ≤ P.size := by rw [← hmm]; exact cpA_le P s
        have hm2 : m ≤ s.size := by rw [← hmm]; exact cpA_le2 P s
        have hmi : (m : Int) ≤ s.size := by omega
        obtain ⟨E, hE⟩ : ∃ x, P.extract 0 m = x := ⟨_, rfl⟩
        have hEs : E.size = m := by rw [← hE]; simp; omega
        obtain ⟨D, hD⟩ : ∃ x, dgA m = x := ⟨_, rfl⟩
        have hDs : D.size ≤ 2 := by rw [← hD]; exact dgA_size (by omega)
        obtain ⟨R, hR⟩ : ∃ x, s.extract m s.size = x := ⟨_, rfl⟩
        have hRs : R.size ≤ 12 := by rw [← hR]; have := rest_size s m; omega
        have HLF : Hid (lineF P s = D ++ R ++ ⟨#[10]⟩) := by show _ = _; unfold lineF; rw [hmm, hD, hR]
        have HBG : Hid (∀ w0, Calls Tryd.prog 10 #[.string P, .string s] w0 fun e w' => e = .returned (.string E) ∧ Below w0.heap.size w0 w') := fun w0 => by rw [← hE, ← hmm]; exact specBeginning_any P s w0 (by unfold maxLen; omega) (by unfold maxLen; omega)
        have HIT : Hid (∀ w0, Calls Tryd.prog 11 #[.int .i64 (m : Int)] w0 fun e w' => e = .returned (.string D) ∧ Below w0.heap.size w0 w') := fun w0 => by rw [← hD]; have := l1Dec_any m w0 (by omega); rw [Lib.itoa_nonneg] at this; exact this
        obtain ⟨W, hW⟩ : ∃ x, frontsA ws k = x := ⟨_, rfl⟩
        rw [hW] at hfs ⊢
        obtain ⟨U, hU⟩ : ∃ x, W ++ D = x := ⟨_, rfl⟩
        have hUs : U.size ≤ 15 * k + 2 := by rw [← hU, ByteArray.size_append]; omega
        obtain ⟨V, hV⟩ : ∃ x, U ++ R = x := ⟨_, rfl⟩
        have hVs : V.size ≤ 15 * k + 14 := by rw [← hV, ByteArray.size_append]; omega
        have hnl : (⟨#[10]⟩ : ByteArray).size = 1 := rfl
        obtain ⟨L, hL⟩ : ∃ x, V ++ ⟨#[10]⟩ = x := ⟨_, rfl⟩
        have HLL : Hid (frontsA ws (k + 1) = L) := by show _ = _; rw [HNX.out, HLF.out, hW, ← hL, ← hV, ← hU]; simp only [ByteArray.append_assoc]
        have r1 : ∀ w : World, (Op.stringOp .add W D).run Tryd.prog w = .ok (.string U) w := fun w => by rw [run_string_add_sum w _ _ (by omega), hU]
        have r2 : ∀ w : World, (Op.stringOp .add U R).run Tryd.prog w = .ok (.string V) w := fun w => by rw [run_string_add_sum w _ _ (by omega), hV]
        have r3 : ∀ w : World, (Op.stringOp .add V ⟨#[10]⟩).run Tryd.prog w = .ok (.string L) w := fun w => by rw [run_string_add_sum w _ _ (by omega), hL]
        clear hP hE hD hU hV hL hW hs hsf hmm
        go_wp2_with fail
        refine (l3Words_any _ _ ws (HA.out.below HB.out)).mono ?_
        rintro e w2 ⟨rfl, hb2⟩
        rw [HL.out]
        have HB2 : Hid (Below w.heap.size w w2) := HB.out.trans (hb2.mono HB.out.size)
        have c2 : w2.cell? ⟨b, off + k, none⟩ = some (.string s) := (hb2.cell (p := ⟨b, off + k, none⟩) hbl).trans c0
        have hbl2 : b < w2.heap.size := Nat.lt_of_lt_of_le hbl hb2.size
        clear hb2 c0 hbl
        go_wp2_with fail
        refine (HBG.out _).mono ?_
        rintro e w3 ⟨rfl, hb3⟩
        have HB3 : Hid (Below w.heap.size w w3) := HB2.out.trans (hb3.mono HB2.out.size)
        have c3 : w3.cell? ⟨b, off + k, none⟩ = some (.string s) := (hb3.cell (p := ⟨b, off + k, none⟩) hbl2).trans c2
        have hbl3 : b < w3.heap.size := Nat.lt_of_lt_of_le hbl2 hb3.size
        clear hb3 c2 hbl2
        go_wp2_with fail
        try rw [hEs]
        refine wp_region_held_drew (S := (fun w' => w'.cell? ⟨b, off + k, none⟩ = some (.string s))) (by kernel_rfl) ?_ (fun hHeld => ?_)
        · (first | go_keep | ((try dsimp only); go_keep))
        refine wpAnyH_takeD (i := 0) (d := 24) (v := .string W) rfl (by kernel_rfl) (by kernel_rfl) (by kernel_rfl) (fun _ _ _ h => h) (Or.inl ⟨by rfl, by intro w hSw; (try dsimp only at hSw); go_simp⟩) (by assumption) rfl ?_
        simp only [Act.put, List.setIfInBounds_toArray, List.set_cons_zero, List.set_cons_succ]
        refine wpAnyH_takeD (i := 1) (d := 25) (v := .int .i64 (m : Int)) rfl (by kernel_rfl) (by kernel_rfl) (by kernel_rfl) (fun _ _ _ h => h) (Or.inl ⟨by rfl, by intro w hSw; (try dsimp only at hSw); go_simp⟩) (by assumption) rfl ?_
        simp only [Act.put, List.setIfInBounds_toArray, List.set_cons_zero, List.set_cons_succ]
        refine wpAnyH_takeD (i := 4) (d := 28) (v := .slice (some ⟨b, off, none⟩) ws.length cap) rfl (by kernel_rfl) (by kernel_rfl) (by kernel_rfl) (fun _ _ _ h => h) (Or.inl ⟨by rfl, by intro w hSw; (try dsimp only at hSw); go_simp⟩) (by assumption) rfl ?_
        simp only [Act.put, List.setIfInBounds_toArray, List.set_cons_zero, List.set_cons_succ]
        refine wpAnyH_takeD (i := 5) (d := 29) (v := .int .i64 (k : Int)) rfl (by kernel_rfl) (by kernel_rfl) (by kernel_rfl) (fun _ _ _ h => h) (Or.inl ⟨by rfl, by intro w hSw; (try dsimp only at hSw); go_simp⟩) (by assumption) rfl ?_
        simp only [Act.put, List.setIfInBounds_toArray, List.set_cons_zero, List.set_cons_succ]
        refine wpAnyH_takeD (i := 6) (d := 30) (v := .pointer (some ⟨b, off + k, none⟩)) rfl (by kernel_rfl) (by kernel_rfl) (by kernel_rfl) (fun _ _ _ h => h) (Or.inl ⟨by rfl, by intro w hSw; (try dsimp only at hSw); go_simp⟩) (by assumption) rfl ?_
        simp only [Act.put, List.setIfInBounds_toArray, List.set_cons_zero, List.set_cons_succ]
        refine wpAnyH_takeD (i := 7) (d := 31) (v := .string s) rfl (by kernel_rfl) (by kernel_rfl) (by kernel_rfl) (fun _ _ _ h => h) (Or.inl ⟨by rfl, by intro w hSw; (try dsimp only at hSw); go_simp⟩) (by assumption) rfl ?_
        simp only [Act.put, List.setIfInBounds_toArray, List.set_cons_zero, List.set_cons_succ]
        refine wpAnyH_takeD (i := 8) (d := 32) (v := .int .i64 (m : Int)) rfl (by kernel_rfl) (by kernel_rfl) (by kernel_rfl) (fun _ _ _ h => h) (Or.inl ⟨by rfl, by intro w hSw; (try dsimp only at hSw); go_simp⟩) (by assumption) rfl ?_
        simp only [Act.put, List.setIfInBounds_toArray, List.set_cons_zero, List.set_cons_succ]
        refine wpAnyH_takeD (i := 9) (d := 33) (v := .string R) rfl (by kernel_rfl) (by kernel_rfl) (by kernel_rfl) (fun _ _ _ h => h) (Or.inl ⟨by rfl, by intro w hSw; (try dsimp only at hSw); go_simp⟩) (by assumption) rfl ?_
        simp only [Act.put, List.setIfInBounds_toArray, List.set_cons_zero, List.set_cons_succ]
        refine wpAnyH_ready (rs := [2]) (by kernel_rfl) (by simp) ?_
        refine AllReadyH.cons rfl (fun K hK => ?_) AllReadyH.nil
        go_simp
        refine (HIT.out _).mono ?_
        rintro e w5 ⟨rfl, hb5⟩
        have HB5 : Hid (Below w.heap.size w w5) := (below_dn415 HB3.out 1).trans (hb5.mono (below_dn415 HB3.out 1).size)
        have c5 : w5.cell? ⟨b, off + k, none⟩ = some (.string s) := (hb5.cell (p := ⟨b, off + k, none⟩) (by simpa using hbl3)).trans (by simpa using c3)
        have hbl5 : b < w5.heap.size := Nat.lt_of_lt_of_le (by simpa using hbl3) hb5.size
        clear hb5
        refine hK.out _ _ ?_ (fun hHeld => ?_)
        · (first | go_keep | ((try dsimp only); go_keep))
        clear hK K
        try simp only [Act.put, List.setIfInBounds_toArray, List.set_cons_zero, List.set_cons_succ]
        refine wpAnyH_takeD (i := 3) (d := 27) (v := .string U) rfl (by kernel_rfl) (by kernel_rfl) (by kernel_rfl) (fun _ _ _ h => h) (Or.inl ⟨by rfl, by intro w hSw; (try dsimp only at hSw); go_simp⟩) (by assumption) rfl ?_
        simp only [Act.put, List.setIfInBounds_toArray, List.set_cons_zero, List.set_cons_succ]
        refine wpAnyH_takeD (i := 10) (d := 34) (v := .string V) rfl (by kernel_rfl) (by kernel_rfl) (by kernel_rfl) (fun _ _ _ h => h) (Or.inl ⟨by rfl, by intro w hSw; (try dsimp only at hSw); go_simp⟩) (by assumption) rfl ?_
        simp only [Act.put, List.setIfInBounds_toArray, List.set_cons_zero, List.set_cons_succ]
        refine wpAnyH_takeD (i := 11) (d := 35) (v := .string L) rfl (by kernel_rfl) (by kernel_rfl) (by kernel_rfl) (fun _ _ _ h => h) (Or.inl ⟨by rfl, by intro w hSw; (try dsimp only at hSw); go_simp⟩) (by assumption) rfl ?_
        simp only [Act.put, List.setIfInBounds_toArray, List.set_cons_zero, List.set_cons_succ]
        refine wpAnyH_takeD (i := 12) (d := 3) (v := .string L) rfl (by kernel_rfl) (by kernel_rfl) (by kernel_rfl) (fun _ _ _ h => h) (Or.inl ⟨by rfl, by intro w hSw; (try dsimp only at hSw); go_simp⟩) (by assumption) rfl ?_
        simp only [Act.put, List.setIfInBounds_toArray, List.set_cons_zero, List.set_cons_succ]
        refine wpAnyH_done (by kernel_rfl) ?_ _
        go_wp2
        go_roundw
        case rel => exact ⟨k + 1, by omega, by rw [HLL.out], by rw [HPV.out], by go_num, HB5.out⟩
        case measure => simp [intOf]; omega
      · have hke : k = ws.length := by omega
        subst hke
        go_wp2
        go_ret
        rw [HF.out]
        exact ⟨rfl, HB.out⟩
end Go.Proofs.YtbfljjiaadhnmaaDoor
