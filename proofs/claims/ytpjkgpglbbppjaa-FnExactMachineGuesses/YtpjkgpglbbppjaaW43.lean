/-
  States handed over: toEdgeS, toState, toStateS.
-/
import Derived.Test.YtpjkgpglbbppjaaW42
namespace Go.Proofs.Ytpjkgpglbbppjaa
open Go.RowKit
set_option linter.unusedVariables false
theorem bcell2 {W w1 : World} (hb : Below W.heap.size W w1) : (∀ b o, b < W.heap.size → w1.cell? ⟨b, o, none⟩ = W.cell? ⟨b, o, none⟩) ∧ (∀ b o, b < W.heap.size → w1.frozen? ⟨b, o, none⟩ = W.frozen? ⟨b, o, none⟩) :=
  ⟨fun b o h => hb.cell (p := ⟨b, o, none⟩) h, fun b o h => hb.frozen (p := ⟨b, o, none⟩) h⟩
theorem rowIs_below {w w' : World} {b : Nat} {t : TypeId} {n : Nat} {f : Nat → Value} (h : w.rowIs b t n f) (hb : Below w.heap.size w w') : w'.rowIs b t n f := h.of_block (hb.block b h.lt)
/-- Two cells of a row are written. -/
theorem rowIs_set2 {w : World} {b : Nat} {t : TypeId} {n : Nat} {f : Nat → Value} (h : w.rowIs b t n f) (k : Nat) (v0 v1 : Value) :
    ((w.setCell ⟨b, k * 2, none⟩ v0).setCell ⟨b, k * 2 + 1, none⟩ v1).rowIs b t n (fun j => if j = k * 2 + 1 then v1 else if j = k * 2 then v0 else f j) :=
  (h.set (k * 2) v0).set (k * 2 + 1) v1
theorem Try.info_edge : (Try.prog.info? 51).map (fun i => (i.zero, i.size, i.bytes)) = some (some (.agg #[.int .i64 0, .int .i64 0]), 2, 16) := by kernel_rfl
theorem Try.info_state : (Try.prog.info? 43).map (fun i => (i.zero, i.size, i.bytes)) = some (some (.agg #[.bool false, .slice none 0 0]), 2, 32) := by kernel_rfl
/-- make of a row of two cells an element. -/
theorem run_make2 (P : Program) (t e : TypeId) (z0 z1 : Value) (bytes : Nat) (ht : P.underlying t = some (.slice e)) (hinfo : (P.info? e).map (fun i => (i.zero, i.size, i.bytes)) = some (some (.agg #[z0, z1]), 2, bytes))
    (n : Nat) (hbytes : bytes * n ≤ 281474976710656) (h63 : n ≤ 9223372036854775807) (w : World) :
    (Instr.makeSlice t (.int .i64 (n : Int)) (.int .i64 (n : Int))).run P w = .ok (.slice (some ⟨w.heap.size, 0, none⟩) n n) (w.alloc (.cells (madeCells #[z0, z1] (n * 2)) e)) := by
  obtain ⟨i, hi, hz, hs, hb⟩ := info_parts hinfo
  have hb' : (i.bytes : Int) * (n : Int) ≤ 281474976710656 := by
    have h : ((i.bytes * n : Nat) : Int) ≤ 281474976710656 := by rw [hb]; omega
    rwa [Int.natCast_mul] at h
  have hr := run_make (P := P) w t e i _ ht hi hz .i64 .i64 n n (by omega) (Int.le_refl _) hb' (by omega)
  simp only [Int.toNat_natCast, hs] at hr
  exact hr
theorem rowIs_made2 (w : World) (z0 z1 : Value) (n : Nat) (t : TypeId) : ∃ f, (w.alloc (.cells (madeCells #[z0, z1] n) t)).rowIs w.heap.size t n f :=
  ⟨fun i => (madeCells #[z0, z1] n)[i]?.getD z0, _, Go.Deep.blk_alloc_new _ _, size_madeCells _ _, fun i hi => by
    have : i < (madeCells #[z0, z1] n).size := by rw [size_madeCells]; exact hi
    simp [Array.getElem?_eq_getElem this]⟩
set_option maxHeartbeats 1000000 in
theorem toEdgeS_any (w : World) (v : Value) (es : List (Int × Int)) (h : EdgesIn 0 w v es) (hn : es.length ≤ 1048576) :
    Calls Try.prog 30 #[v] w fun e w' => ∃ v', e = .returned v' ∧ EdgesIn w.heap.size w' v' es ∧ Below w.heap.size w w' := by
  obtain ⟨a, cap, rfl, hc, hm⟩ := h.form
  have HS : Hid (EdgesIn 0 w (.slice a es.length cap) es) := h
  clear h
  have hmk := run_make2 Try.prog 41 51 _ _ _ Try.underlying41 Try.info_edge es.length (by omega) (by omega)
  obtain ⟨f0, hf0⟩ := rowIs_made2 w (.int .i64 0) (.int .i64 0) (es.length * 2) 51
  have HF : Hid ((w.alloc (.cells (madeCells #[.int .i64 0, .int .i64 0] (es.length * 2)) 51)).rowIs w.heap.size 51 (es.length * 2) f0) := hf0
  clear hf0
  go_enter Try.func30, Try.ntmps30
  go_wp2
  go_loopw [4] (fun i wr => ∃ (k : Nat) (f : Nat → Value), k ≤ es.length ∧ i = .int .i64 k ∧ wr.rowIs w.heap.size 51 (es.length * 2) f ∧ (∀ (j : Nat) (e : Int × Int), j < k → es[j]? = some e → f (j * 2) = .int .i64 e.1 ∧ f (j * 2 + 1) = .int .i64 e.2) ∧ Below w.heap.size w wr) (fun i _ => es.length - (intOf i).toNat)
  case atStart => exact ⟨0, f0, Nat.zero_le _, rfl, HF.out, fun j s hj => absurd hj (by omega), (Below.refl _ _).alloc (Nat.le_refl _) _⟩
  case round =>
    obtain ⟨k, f, hk, rfl, hrow, hall, hb⟩ := hrel
    have HA : Hid (∀ (j : Nat) (e : Int × Int), j < k → es[j]? = some e → f (j * 2) = .int .i64 e.1 ∧ f (j * 2 + 1) = .int .i64 e.2) := hall
    have HB : Hid (Below w.heap.size w wr) := hb
    have HW : Hid (wr.rowIs w.heap.size 51 (es.length * 2) f) := hrow
    clear hall hb hrow
    by_cases hlt : k < es.length
    · obtain ⟨b, off, cap', s, hv, _, _, hbl, hs, c1, c2⟩ := (HS.out.below HB.out).at hlt
      cases hv
      have HX : Hid (es[k]? = some s) := hs
      clear hs
      go_wp2_with fail
      refine (toEdge_any _ _ _).mono ?_
      rintro e w' ⟨rfl, hb'⟩
      have HW' : Hid (w'.rowIs w.heap.size 51 (es.length * 2) f) := rowIs_below HW.out hb'
      have HB' : Hid (Below w.heap.size w w') := HB.out.trans (hb'.mono HB.out.size)
      have d1 := HW'.out.cell (i := k * 2) (by omega)
      have d2 := HW'.out.cell (i := k * 2 + 1) (by omega)
      have g1 := HW'.out.frozen (k * 2)
      have g2 := HW'.out.frozen (k * 2 + 1)
      clear hb' c1 c2
      go_wp2
      go_roundw
      case rel =>
        refine ⟨k + 1, _, by omega, by go_num, rowIs_set2 HW'.out k _ _, fun j x hj hx => ?_, (HB'.out.setCell (Nat.le_refl _) _).setCell (Nat.le_refl _) _⟩
        by_cases e : j = k
        · subst e
          rw [HX.out] at hx
          cases hx
          exact ⟨by rw [if_neg (by omega), if_pos rfl], by rw [if_pos rfl]⟩
        · obtain ⟨e1, e2⟩ := HA.out j x (by omega) hx
          exact ⟨by rw [if_neg (by omega), if_neg (by omega)]; exact e1, by rw [if_neg (by omega), if_neg (by omega)]; exact e2⟩
      case measure => simp [intOf]; omega
    · go_wp2
      go_ret
      refine ⟨_, rfl, ⟨_, es.length, rfl, Nat.le_refl _, by unfold maxLen; omega, fun _ => ⟨w.heap.size, 0, rfl, Nat.le_refl _, HW.out.lt, fun i e he => ?_⟩⟩, HB.out⟩
      have hi := (List.getElem?_eq_some_iff.1 he).1
      obtain ⟨e1, e2⟩ := HA.out i e (by omega) he
      rw [Nat.zero_add, HW.out.cell (by omega), HW.out.cell (by omega), e1, e2]
      exact ⟨rfl, rfl⟩
set_option maxHeartbeats 1000000 in
theorem toState_any (w : World) (b : Bool) (v : Value) (es : List (Int × Int)) (h : EdgesIn 0 w v es) (hn : es.length ≤ 1048576) :
    Calls Try.prog 18 #[.agg #[.bool b, v]] w fun e w' => ∃ v', e = .returned (.agg #[.bool b, v']) ∧ EdgesIn w.heap.size w' v' es ∧ Below w.heap.size w w' := by
  obtain ⟨a, cap, rfl, hc, hm⟩ := h.form
  have HS : Hid (EdgesIn 0 w (.slice a es.length cap) es) := h
  clear h
  go_enter Try.func18, Try.ntmps18
  go_wp2_with fail
  refine (toEdgeS_any _ _ es ?e1 hn).mono ?_
  case e1 => exact HS.out.below (by repeat (first | exact Below.refl _ _ | refine Below.setCell ?_ (by simp) _ | refine Below.alloc ?_ (by simp <;> omega) _))
  rintro e w' ⟨v', rfl, hE, hb'⟩
  obtain ⟨a', cap', rfl, hc', hm'⟩ := hE.form
  have HE : Hid (EdgesIn (w.heap.size + 3) w' (.slice a' es.length cap') es) := hE.lower (by simp <;> omega)
  obtain ⟨hcl, hfz⟩ := bcell2 hb'
  have hz := hb'.size
  have HB : Hid (Below w.heap.size w w') := Below.trans (by repeat (first | exact Below.refl _ _ | refine Below.setCell ?_ (by simp) _ | refine Below.alloc ?_ (by simp <;> omega) _)) (hb'.mono (by simp <;> omega))
  simp at hz
  clear hE hb'
  go_wp2
  refine bodyPost_ret (v := .agg #[.bool b, .slice a' es.length cap']) (by simp [results, Try.results18, go_sem, hcl, World.cell?_setCell_same', World.cell?_setCell_other]) rfl ⟨_, rfl, ?_, ?_⟩
  · exact (((HE.out.set (by simp) _).set (by simp <;> omega) _).set (by simp <;> omega) _).lower (by omega)
  · exact ((HB.out.setCell (by simp <;> omega) _).setCell (by simp) _).setCell (by simp) _
/-- Behind a round of toStateS: the states so far. -/
def StatesTo (g n k : Nat) (ss : List Sta) (wr : World) (f : Nat → Value) : Prop :=
  ∀ (j : Nat) (s : Sta), j < k → ss[j]? = some s → f (j * 2) = .bool s.ends ∧ EdgesIn (g + 1) wr (f (j * 2 + 1)) s.es
theorem StatesTo.keep {g n k : Nat} {ss : List Sta} {wr w' : World} {f : Nat → Value} (h : StatesTo g n k ss wr f) (hb : Below wr.heap.size wr w') : StatesTo g n k ss w' f :=
  fun j s hj hs => ⟨(h j s hj hs).1, (h j s hj hs).2.below hb⟩
theorem StatesTo.set {g n k : Nat} {ss : List Sta} {wr : World} {f : Nat → Value} (h : StatesTo g n k ss wr f) {s : Sta} (hs : ss[k]? = some s) {ev : Value} (he : EdgesIn (g + 1) wr ev s.es) :
    StatesTo g n (k + 1) ss ((wr.setCell ⟨g, k * 2, none⟩ (.bool s.ends)).setCell ⟨g, k * 2 + 1, none⟩ ev) (fun j => if j = k * 2 + 1 then ev else if j = k * 2 then .bool s.ends else f j) := by
  intro j x hj hx
  show (if j * 2 = k * 2 + 1 then ev else if j * 2 = k * 2 then .bool s.ends else f (j * 2)) = _ ∧ EdgesIn (g + 1) _ (if j * 2 + 1 = k * 2 + 1 then ev else if j * 2 + 1 = k * 2 then .bool s.ends else f (j * 2 + 1)) x.es
  by_cases e : j = k
  · subst e
    rw [hs] at hx
    cases hx
    rw [if_neg (by omega), if_pos rfl, if_pos rfl]
    exact ⟨rfl, (he.set (by simp) _).set (by simp) _⟩
  · obtain ⟨e1, e2⟩ := h j x (by omega) hx
    rw [if_neg (by omega), if_neg (by omega), if_neg (by omega), if_neg (by omega)]
    exact ⟨e1, (e2.set (by simp) _).set (by simp) _⟩
theorem StatesTo.done {g n : Nat} {ss : List Sta} {wr : World} {f : Nat → Value} {t : TypeId} (h : StatesTo g n ss.length ss wr f) (hr : wr.rowIs g t (ss.length * 2) f) (hm : ss.length ≤ maxLen) :
    StatesAt wr (.slice (some ⟨g, 0, none⟩) ss.length ss.length) ss := by
  refine ⟨_, ss.length, rfl, Nat.le_refl _, hm, fun _ => ⟨g, 0, rfl, hr.lt, fun i s hs => ?_⟩⟩
  have hi := (List.getElem?_eq_some_iff.1 hs).1
  obtain ⟨e1, e2⟩ := h i s hi hs
  rw [Nat.zero_add, hr.cell (by omega), hr.cell (by omega), e1]
  exact ⟨rfl, _, rfl, e2.lower (Nat.zero_le _)⟩
set_option maxHeartbeats 1000000 in
theorem toStateS_any (w : World) (v : Value) (ss : List Sta) (h : StatesAt w v ss) (hn : SmallS ss) :
    Calls Try.prog 6 #[v] w fun e w' => ∃ v', e = .returned v' ∧ StatesAt w' v' ss ∧ Below w.heap.size w w' := by
  obtain ⟨a, cap, rfl, hc, hm⟩ := h.form
  have HS : Hid (StatesAt w (.slice a ss.length cap) ss) := h
  have HN : Hid (SmallS ss) := hn
  have hn1 : ss.length ≤ 1048576 := hn.1
  clear h hn
  have hmk := run_make2 Try.prog 26 43 _ _ _ Try.underlying26 Try.info_state ss.length (by omega) (by omega)
  obtain ⟨f0, hf0⟩ := rowIs_made2 w (.bool false) (.slice none 0 0) (ss.length * 2) 43
  have HF : Hid ((w.alloc (.cells (madeCells #[.bool false, .slice none 0 0] (ss.length * 2)) 43)).rowIs w.heap.size 43 (ss.length * 2) f0) := hf0
  clear hf0
  go_enter Try.func6, Try.ntmps6
  go_wp2
  go_loopw [4] (fun i wr => ∃ (k : Nat) (f : Nat → Value), k ≤ ss.length ∧ i = .int .i64 k ∧ wr.rowIs w.heap.size 43 (ss.length * 2) f ∧ StatesTo w.heap.size 0 k ss wr f ∧ Below w.heap.size w wr) (fun i _ => ss.length - (intOf i).toNat)
  case atStart => exact ⟨0, f0, Nat.zero_le _, rfl, HF.out, fun j s hj => absurd hj (by omega), (Below.refl _ _).alloc (Nat.le_refl _) _⟩
  case round =>
    obtain ⟨k, f, hk, rfl, hrow, hall, hb⟩ := hrel
    have HA : Hid (StatesTo w.heap.size 0 k ss wr f) := hall
    have HB : Hid (Below w.heap.size w wr) := hb
    have HW : Hid (wr.rowIs w.heap.size 43 (ss.length * 2) f) := hrow
    clear hall hb hrow
    by_cases hlt : k < ss.length
    · obtain ⟨b, off, cap', s, ev, hv, _, _, hbl, hs, c1, c2, hev⟩ := (HS.out.below HB.out).at hlt
      cases hv
      have HX : Hid (ss[k]? = some s) := hs
      have HE : Hid (EdgesIn 0 wr ev s.es) := hev
      clear hs hev
      go_wp2_with fail
      refine (toState_any _ _ _ s.es HE.out (HN.out.2 k s HX.out)).mono ?_
      rintro e w' ⟨ev', rfl, hE, hb'⟩
      obtain ⟨a', cap', rfl, hc', hm'⟩ := hE.form
      have HE' : Hid (EdgesIn (w.heap.size + 1) w' (.slice a' s.es.length cap') s.es) := hE.lower (by have := HW.out.lt; omega)
      have HA' : Hid (StatesTo w.heap.size 0 k ss w' f) := HA.out.keep hb'
      have HW' : Hid (w'.rowIs w.heap.size 43 (ss.length * 2) f) := rowIs_below HW.out hb'
      have HB' : Hid (Below w.heap.size w w') := HB.out.trans (hb'.mono HB.out.size)
      have d1 := HW'.out.cell (i := k * 2) (by omega)
      have d2 := HW'.out.cell (i := k * 2 + 1) (by omega)
      have g1 := HW'.out.frozen (k * 2)
      have g2 := HW'.out.frozen (k * 2 + 1)
      clear hb' c1 c2 hE
      go_wp2
      go_roundw
      case rel => exact ⟨k + 1, _, by omega, by go_num, rowIs_set2 HW'.out k _ _, HA'.out.set HX.out HE'.out, (HB'.out.setCell (Nat.le_refl _) _).setCell (Nat.le_refl _) _⟩
      case measure => simp [intOf]; omega
    · obtain rfl : k = ss.length := by omega
      go_wp2
      go_ret
      exact ⟨_, rfl, HA.out.done HW.out (by unfold maxLen; omega), HB.out⟩
end Go.Proofs.Ytpjkgpglbbppjaa
