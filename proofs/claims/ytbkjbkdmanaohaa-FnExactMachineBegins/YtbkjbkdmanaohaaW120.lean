/-
  States that are one's own memory: copied so, and marked.
-/
import Derived.Test.YtbkjbkdmanaohaaGW43
import Derived.Test.YtbkjbkdmanaohaaGW93
import Derived.Test.YtbkjbkdmanaohaaW119
namespace Go.Proofs.Ytbkjbkdmanaohaa
open Go.RowKit
set_option linter.unusedVariables false
/-- A slice of edges that may be written. -/
def MarkE (lo hi : Nat) (w : World) (v : Value) (n : Nat) : Prop :=
  ∃ a cap, v = .slice a n cap ∧ n ≤ cap ∧ (n ≠ 0 → ∃ g m f, a = some ⟨g, 0, none⟩ ∧ lo ≤ g ∧ g < hi ∧ n * 2 ≤ m ∧ w.rowIs g 73 m f)
theorem MarkE.below {lo hi : Nat} {w w' : World} {v : Value} {n : Nat} (h : MarkE lo hi w v n) (hb : Below w.heap.size w w') : MarkE lo hi w' v n := by
  obtain ⟨a, cap, hv, hc, hh⟩ := h
  refine ⟨a, cap, hv, hc, fun hn => ?_⟩
  obtain ⟨g, m, f, ha, h1, h2, h3, h4⟩ := hh hn
  exact ⟨g, m, f, ha, h1, h2, h3, rowIs_below h4 hb⟩
theorem MarkE.wr {lo hi l h : Nat} {w w' : World} {v : Value} {n : Nat} (hm : MarkE lo hi w v n) (hw : Wr l h w w') : MarkE lo hi w' v n := by
  obtain ⟨a, cap, hv, hc, hh⟩ := hm
  refine ⟨a, cap, hv, hc, fun hn => ?_⟩
  obtain ⟨g, m, f, ha, h1, h2, h3, h4⟩ := hh hn
  obtain ⟨f', h5⟩ := hw.2.2.2 g _ _ _ h4
  exact ⟨g, m, f', ha, h1, h2, h3, h5⟩
theorem MarkE.weak {lo lo' hi hi' : Nat} {w : World} {v : Value} {n : Nat} (h : MarkE lo hi w v n) (h1 : lo' ≤ lo) (h2 : hi ≤ hi') : MarkE lo' hi' w v n := by
  obtain ⟨a, cap, hv, hc, hh⟩ := h
  refine ⟨a, cap, hv, hc, fun hn => ?_⟩
  obtain ⟨g, m, f, ha, k1, k2, k3, k4⟩ := hh hn
  exact ⟨g, m, f, ha, by omega, by omega, k3, k4⟩
set_option maxHeartbeats 1000000 in
theorem markEdgeS_any (lo hi : Nat) (k : Int) (w : World) (v : Value) (n : Nat) (h : MarkE lo hi w v n) (hn : n ≤ 1048576) (hk0 : 0 ≤ k) (hk : k ≤ 1000000000000000) :
    Calls Try.prog 35 #[v, .int .i64 k] w fun e w' => e = .returned (.int .i64 (k + n * 2)) ∧ Wr lo hi w w' := by
  obtain ⟨a, cap, rfl, hc, hh⟩ := h
  by_cases h0 : n = 0
  · subst h0
    clear hh
    go_enter Try.func35, Try.ntmps35
    go_wp2
    go_loopw [1, 5] (fun kv i wr => kv = .int .i64 k ∧ i = .int .i64 0 ∧ wr = w) (fun _ i _ => 0)
    case atStart => exact ⟨rfl, rfl, rfl⟩
    case round =>
      obtain ⟨rfl, rfl, rfl⟩ := hrel
      go_wp2
      go_ret
      exact ⟨by simp, Wr.refl _ _ _⟩
  · obtain ⟨g, m, f, rfl, h1, h2, h3, h4⟩ := hh h0
    have HR : Hid (w.rowIs g 73 m f) := h4
    clear h4 hh
    go_enter Try.func35, Try.ntmps35
    go_wp2
    go_loopw [1, 5] (fun kv i wr => ∃ (j : Nat) (f : Nat → Value), j ≤ n ∧ kv = .int .i64 (k + j * 2) ∧ i = .int .i64 j ∧ wr.rowIs g 73 m f ∧ Wr lo hi w wr) (fun _ i _ => n - (intOf i).toNat)
    case atStart => exact ⟨0, f, Nat.zero_le _, by simp, rfl, HR.out, Wr.refl _ _ _⟩
    case round =>
      obtain ⟨j, f1, hj, rfl, rfl, hr, hw⟩ := hrel
      have HW : Hid (Wr lo hi w wr) := hw
      have HR1 : Hid (wr.rowIs g 73 m f1) := hr
      clear hw hr
      by_cases hlt : j < n
      · have d1 := HR1.out.cell (i := j * 2) (by omega)
        have d2 := HR1.out.cell (i := j * 2 + 1) (by omega)
        have g1 := HR1.out.frozen (j * 2)
        have g2 := HR1.out.frozen (j * 2 + 1)
        go_wp2
        go_roundw
        case rel =>
          refine ⟨j + 1, _, by omega, ?_, by go_num, rowIs_set2 HR1.out j _ _, (HW.out.trans (Wr.set _ (p := ⟨g, j * 2, none⟩) h1 h2 rfl _)).trans (Wr.set _ (p := ⟨g, j * 2 + 1, none⟩) h1 h2 rfl _)⟩
          congr 1
          omega
        case measure => simp [intOf]; omega
      · obtain rfl : j = n := by omega
        go_wp2
        go_ret
        exact ⟨rfl, HW.out⟩
/-- A slice of states that may be written. -/
def MarkS (g hi : Nat) (w : World) (v : Value) (n : Nat) : Prop :=
  ∃ cap f, v = .slice (some ⟨g, 0, none⟩) n cap ∧ n ≤ cap ∧ g < hi ∧ w.rowIs g 49 (n * 2) f ∧ ∀ i, i < n → ∃ m, m ≤ 1048576 ∧ MarkE (g + 1) hi w (f (i * 2 + 1)) m
theorem MarkS.below {g hi : Nat} {w w' : World} {v : Value} {n : Nat} (h : MarkS g hi w v n) (hb : Below w.heap.size w w') : MarkS g hi w' v n := by
  obtain ⟨cap, f, hv, hc, h1, h2, h3⟩ := h
  refine ⟨cap, f, hv, hc, h1, rowIs_below h2 hb, fun i hi' => ?_⟩
  obtain ⟨m, hm, h4⟩ := h3 i hi'
  exact ⟨m, hm, h4.below hb⟩
set_option maxHeartbeats 1000000 in
theorem markStateS_any (g hi : Nat) (w : World) (v : Value) (n : Nat) (h : MarkS g hi w v n) (hn : n ≤ 1048576) :
    Calls Try.prog 16 #[v, .int .i64 1] w fun e w' => (∃ k : Int, e = .returned (.int .i64 k) ∧ 0 ≤ k) ∧ Wr g hi w w' := by
  obtain ⟨cap, f, rfl, hc, h1, h2, h3⟩ := h
  have HR : Hid (w.rowIs g 49 (n * 2) f) := h2
  have HM : Hid (∀ i, i < n → ∃ m, m ≤ 1048576 ∧ MarkE (g + 1) hi w (f (i * 2 + 1)) m) := h3
  clear h2 h3
  go_enter Try.func16, Try.ntmps16
  go_wp2
  go_loopw [1, 5] (fun kv i wr => ∃ (j : Nat) (k : Int) (f : Nat → Value), j ≤ n ∧ 0 ≤ k ∧ k ≤ 1 + (j : Int) * 2097153 ∧ kv = .int .i64 k ∧ i = .int .i64 j ∧ wr.rowIs g 49 (n * 2) f ∧ (∀ i, i < n → ∃ m, m ≤ 1048576 ∧ MarkE (g + 1) hi wr (f (i * 2 + 1)) m) ∧ Wr g hi w wr) (fun _ i _ => n - (intOf i).toNat)
  case atStart => exact ⟨0, 1, f, Nat.zero_le _, by omega, by omega, rfl, rfl, HR.out, HM.out, Wr.refl _ _ _⟩
  case round =>
    obtain ⟨j, k, f1, hj, hk0, hk1, rfl, rfl, hr, hm, hw⟩ := hrel
    have HW : Hid (Wr g hi w wr) := hw
    have HR1 : Hid (wr.rowIs g 49 (n * 2) f1) := hr
    have HM1 : Hid (∀ i, i < n → ∃ m, m ≤ 1048576 ∧ MarkE (g + 1) hi wr (f1 (i * 2 + 1)) m) := hm
    clear hw hr hm
    by_cases hlt : j < n
    · obtain ⟨m, hm, hme⟩ := HM1.out j hlt
      obtain ⟨ea, ecap, he, hec⟩ : ∃ ea ecap, f1 (j * 2 + 1) = .slice ea m ecap ∧ m ≤ ecap := by
        obtain ⟨ea, ecap, he, hec, _⟩ := hme
        exact ⟨ea, ecap, he, hec⟩
      have HME : Hid (MarkE (g + 1) hi wr (.slice ea m ecap) m) := by
        rw [he] at hme
        exact hme
      have d1 := HR1.out.cell (i := j * 2) (by omega)
      have g1 := HR1.out.frozen (j * 2)
      have d2 : wr.cell? ⟨g, j * 2 + 1, none⟩ = some (.slice ea m ecap) := (HR1.out.cell (by omega)).trans (by rw [he])
      have HE : Hid (f1 (j * 2 + 1) = .slice ea m ecap) := he
      clear hme he
      go_wp2_with fail
      have hws := Wr.set (lo := g) (hi := hi) wr (p := ⟨g, j * 2, none⟩) (Nat.le_refl _) h1 rfl (.bool (k % 3 == 0))
      have HWS : Hid (Wr g hi w (wr.setCell ⟨g, j * 2, none⟩ (.bool (k % 3 == 0)))) := HW.out.trans hws
      have HRS : Hid ((wr.setCell ⟨g, j * 2, none⟩ (.bool (k % 3 == 0))).rowIs g 49 (n * 2) (fun i => if i = j * 2 then .bool (k % 3 == 0) else f1 i)) := HR1.out.set (j * 2) _
      have HMS : Hid (∀ i, i < n → ∃ m, m ≤ 1048576 ∧ MarkE (g + 1) hi (wr.setCell ⟨g, j * 2, none⟩ (.bool (k % 3 == 0))) ((fun i => if i = j * 2 then Value.bool (k % 3 == 0) else f1 i) (i * 2 + 1)) m) := fun i hi' => by
        obtain ⟨m', hm', h4⟩ := HM1.out i hi'
        refine ⟨m', hm', ?_⟩
        show MarkE _ _ _ (if i * 2 + 1 = j * 2 then _ else f1 (i * 2 + 1)) m'
        rw [if_neg (by omega)]
        exact h4.wr hws
      refine (markEdgeS_any (g + 1) hi (k + 1) _ _ m (HME.out.wr hws) hm (by omega) (by omega)).mono ?_
      rintro e w3 ⟨rfl, hw3⟩
      have HW3 : Hid (Wr g hi w w3) := HWS.out.trans (hw3.low (by omega))
      have HR3 : Hid (w3.rowIs g 49 (n * 2) (fun i => if i = j * 2 then .bool (k % 3 == 0) else f1 i)) := HRS.out.of_block (hw3.1.block g (by omega))
      have HM3 : Hid (∀ i, i < n → ∃ m, m ≤ 1048576 ∧ MarkE (g + 1) hi w3 ((fun i => if i = j * 2 then Value.bool (k % 3 == 0) else f1 i) (i * 2 + 1)) m) := fun i hi' => by
        obtain ⟨m', hm', h4⟩ := HMS.out i hi'
        exact ⟨m', hm', h4.wr hw3⟩
      clear hw3 hws d1 g1 d2
      go_wp2
      go_roundw
      case rel => exact ⟨j + 1, k + 1 + m * 2, _, by omega, by omega, by omega, rfl, by go_num, HR3.out, HM3.out, HW3.out⟩
      case measure => simp [intOf]; omega
    · go_wp2
      go_ret
      exact ⟨⟨k, rfl, hk0⟩, HW.out⟩
set_option maxHeartbeats 1000000 in
theorem toEdgeS_own (w : World) (v : Value) (es : List (Int × Int)) (h : EdgesIn 0 w v es) (hn : es.length ≤ 1048576) :
    Calls Try.prog 50 #[v] w fun e w' => ∃ v', e = .returned v' ∧ (EdgesIn w.heap.size w' v' es ∧ MarkE w.heap.size w'.heap.size w' v' es.length) ∧ Below w.heap.size w w' := by
  obtain ⟨a, cap, rfl, hc, hm⟩ := h.form
  have HS : Hid (EdgesIn 0 w (.slice a es.length cap) es) := h
  clear h
  have hmk := run_make2 Try.prog 47 73 _ _ _ Try.underlying47 Try.info_edge es.length (by omega) (by omega)
  obtain ⟨f0, hf0⟩ := rowIs_made2 w (.int .i64 0) (.int .i64 0) (es.length * 2) 73
  have HF : Hid ((w.alloc (.cells (madeCells #[.int .i64 0, .int .i64 0] (es.length * 2)) 73)).rowIs w.heap.size 73 (es.length * 2) f0) := hf0
  clear hf0
  go_enter Try.func50, Try.ntmps50
  go_wp2
  go_loopw [4] (fun i wr => ∃ (k : Nat) (f : Nat → Value), k ≤ es.length ∧ i = .int .i64 k ∧ wr.rowIs w.heap.size 73 (es.length * 2) f ∧ (∀ (j : Nat) (e : Int × Int), j < k → es[j]? = some e → f (j * 2) = .int .i64 e.1 ∧ f (j * 2 + 1) = .int .i64 e.2) ∧ Below w.heap.size w wr) (fun i _ => es.length - (intOf i).toNat)
  case atStart => exact ⟨0, f0, Nat.zero_le _, rfl, HF.out, fun j s hj => absurd hj (by omega), (Below.refl _ _).alloc (Nat.le_refl _) _⟩
  case round =>
    obtain ⟨k, f, hk, rfl, hrow, hall, hb⟩ := hrel
    have HA : Hid (∀ (j : Nat) (e : Int × Int), j < k → es[j]? = some e → f (j * 2) = .int .i64 e.1 ∧ f (j * 2 + 1) = .int .i64 e.2) := hall
    have HB : Hid (Below w.heap.size w wr) := hb
    have HW : Hid (wr.rowIs w.heap.size 73 (es.length * 2) f) := hrow
    clear hall hb hrow
    by_cases hlt : k < es.length
    · obtain ⟨b, off, cap', s, hv, _, _, hbl, hs, c1, c2⟩ := (HS.out.below HB.out).at hlt
      cases hv
      have HX : Hid (es[k]? = some s) := hs
      clear hs
      go_wp2_with fail
      refine (toEdge_any _ _ _).mono ?_
      rintro e w' ⟨rfl, hb'⟩
      have HW' : Hid (w'.rowIs w.heap.size 73 (es.length * 2) f) := rowIs_below HW.out hb'
      have HB' : Hid (Below w.heap.size w w') := HB.out.trans (hb'.mono HB.out.size)
      have d1 := HW'.out.cell (i := k * 2) (by omega)
      have d2 := HW'.out.cell (i := k * 2 + 1) (by omega)
      have g1 := HW'.out.frozen (k * 2)
      have g2 := HW'.out.frozen (k * 2 + 1)
      clear hb' c1 c2
      go_wp2
      go_roundw
      case rel =>
        refine ⟨k + 1, _, by omega, by go_num, rowIs_set2 HW'.out k _ _, fun j x hj hx => ?_, (HB'.out.setCell (Nat.le_refl _) _).setCell (Nat.le_refl _) _⟩
        by_cases e : j = k
        · subst e
          rw [HX.out] at hx
          cases hx
          exact ⟨by rw [if_neg (by omega), if_pos rfl], by rw [if_pos rfl]⟩
        · obtain ⟨e1, e2⟩ := HA.out j x (by omega) hx
          exact ⟨by rw [if_neg (by omega), if_neg (by omega)]; exact e1, by rw [if_neg (by omega), if_neg (by omega)]; exact e2⟩
      case measure => simp [intOf]; omega
    · go_wp2
      go_ret
      refine ⟨_, rfl, ⟨⟨_, es.length, rfl, Nat.le_refl _, by unfold maxLen; omega, fun _ => ⟨w.heap.size, 0, rfl, Nat.le_refl _, HW.out.lt, fun i e he => ?_⟩⟩, ⟨_, es.length, rfl, Nat.le_refl _, fun _ => ⟨w.heap.size, _, f, rfl, Nat.le_refl _, HW.out.lt, Nat.le_refl _, HW.out⟩⟩⟩, HB.out⟩
      have hi := (List.getElem?_eq_some_iff.1 he).1
      obtain ⟨e1, e2⟩ := HA.out i e (by omega) he
      rw [Nat.zero_add, HW.out.cell (by omega), HW.out.cell (by omega), e1, e2]
      exact ⟨rfl, rfl⟩
set_option maxHeartbeats 1000000 in
theorem toState_own (w : World) (b : Bool) (v : Value) (es : List (Int × Int)) (h : EdgesIn 0 w v es) (hn : es.length ≤ 1048576) :
    Calls Try.prog 28 #[.agg #[.bool b, v]] w fun e w' => ∃ v', e = .returned (.agg #[.bool b, v']) ∧ (EdgesIn w.heap.size w' v' es ∧ MarkE w.heap.size w'.heap.size w' v' es.length) ∧ Below w.heap.size w w' := by
  obtain ⟨a, cap, rfl, hc, hm⟩ := h.form
  have HS : Hid (EdgesIn 0 w (.slice a es.length cap) es) := h
  clear h
  go_enter Try.func28, Try.ntmps28
  go_wp2_with fail
  refine (toEdgeS_own _ _ es ?e1 hn).mono ?_
  case e1 => exact HS.out.below (by repeat (first | exact Below.refl _ _ | refine Below.setCell ?_ (by simp) _ | refine Below.alloc ?_ (by simp <;> omega) _))
  rintro e w' ⟨v', rfl, ⟨hE, hME⟩, hb'⟩
  obtain ⟨a', cap', rfl, hc', hm'⟩ := hE.form
  have HME : Hid (MarkE (w.heap.size + 3) w'.heap.size w' (.slice a' es.length cap') es.length) := hME.weak (by simp <;> omega) (Nat.le_refl _)
  have HE : Hid (EdgesIn (w.heap.size + 3) w' (.slice a' es.length cap') es) := hE.lower (by simp <;> omega)
  obtain ⟨hcl, hfz⟩ := bcell2 hb'
  have hz := hb'.size
  have HB : Hid (Below w.heap.size w w') := Below.trans (by repeat (first | exact Below.refl _ _ | refine Below.setCell ?_ (by simp) _ | refine Below.alloc ?_ (by simp <;> omega) _)) (hb'.mono (by simp <;> omega))
  simp at hz
  clear hE hb' hME
  go_wp2
  refine bodyPost_ret (v := .agg #[.bool b, .slice a' es.length cap']) (by simp [results, Try.results28, go_sem, hcl, World.cell?_setCell_same', World.cell?_setCell_other]) rfl ⟨_, rfl, ⟨?_, ?_⟩, ?_⟩
  · exact (((HE.out.set (by simp) _).set (by simp <;> omega) _).set (by simp <;> omega) _).lower (by omega)
  · exact ((((HME.out.wr (Wr.set (lo := 0) (hi := w.heap.size + 3) _ (Nat.zero_le _) (by simp) rfl _)).wr (Wr.set (lo := 0) (hi := w.heap.size + 3) _ (Nat.zero_le _) (by simp <;> omega) rfl _)).wr (Wr.set (lo := 0) (hi := w.heap.size + 3) _ (Nat.zero_le _) (by simp <;> omega) rfl _))).weak (by omega) (by simp only [Go.Deep.nblk_setCell]; exact Nat.le_refl _)
  · exact ((HB.out.setCell (by simp <;> omega) _).setCell (by simp) _).setCell (by simp) _
theorem marks_next {g k : Nat} {ss : List Sta} {w : World} {f : Nat → Value} {s : Sta} {ev : Value} (h : ∀ (j : Nat) (s : Sta), j < k → ss[j]? = some s → MarkE (g + 1) w.heap.size w (f (j * 2 + 1)) s.es.length) (hs : ss[k]? = some s) (he : MarkE (g + 1) w.heap.size w ev s.es.length) :
    ∀ (j : Nat) (x : Sta), j < k + 1 → ss[j]? = some x → MarkE (g + 1) ((w.setCell ⟨g, k * 2, none⟩ (.bool s.ends)).setCell ⟨g, k * 2 + 1, none⟩ ev).heap.size ((w.setCell ⟨g, k * 2, none⟩ (.bool s.ends)).setCell ⟨g, k * 2 + 1, none⟩ ev) ((fun j => if j = k * 2 + 1 then ev else if j = k * 2 then .bool s.ends else f j) (j * 2 + 1)) x.es.length := by
  intro j x hj hx
  have key : ∀ v n, MarkE (g + 1) w.heap.size w v n → MarkE (g + 1) ((w.setCell ⟨g, k * 2, none⟩ (.bool s.ends)).setCell ⟨g, k * 2 + 1, none⟩ ev).heap.size ((w.setCell ⟨g, k * 2, none⟩ (.bool s.ends)).setCell ⟨g, k * 2 + 1, none⟩ ev) v n := fun v n h1 =>
    ((h1.wr (Wr.set (lo := 0) (hi := g + 1) _ (Nat.zero_le _) (Nat.lt_succ_self _) rfl _)).wr (Wr.set (lo := 0) (hi := g + 1) _ (Nat.zero_le _) (Nat.lt_succ_self _) rfl _)).weak (Nat.le_refl _) (by simp only [Go.Deep.nblk_setCell]; exact Nat.le_refl _)
  show MarkE _ _ _ (if j * 2 + 1 = k * 2 + 1 then ev else if j * 2 + 1 = k * 2 then .bool s.ends else f (j * 2 + 1)) _
  by_cases e : j = k
  · subst e
    rw [hs] at hx
    cases hx
    rw [if_pos rfl]
    exact key _ _ he
  · rw [if_neg (by omega), if_neg (by omega)]
    exact key _ _ (h j x (by omega) hx)
set_option maxHeartbeats 1000000 in
theorem toStateS_own (w : World) (v : Value) (ss : List Sta) (h : StatesAt w v ss) (hn : SmallS ss) :
    Calls Try.prog 10 #[v] w fun e w' => ∃ v', e = .returned v' ∧ (StatesAt w' v' ss ∧ MarkS w.heap.size w'.heap.size w' v' ss.length) ∧ Below w.heap.size w w' := by
  obtain ⟨a, cap, rfl, hc, hm⟩ := h.form
  have HS : Hid (StatesAt w (.slice a ss.length cap) ss) := h
  have HN : Hid (SmallS ss) := hn
  have hn1 : ss.length ≤ 1048576 := hn.1
  clear h hn
  have hmk := run_make2 Try.prog 25 49 _ _ _ Try.underlying25 Try.info_state ss.length (by omega) (by omega)
  obtain ⟨f0, hf0⟩ := rowIs_made2 w (.bool false) (.slice none 0 0) (ss.length * 2) 49
  have HF : Hid ((w.alloc (.cells (madeCells #[.bool false, .slice none 0 0] (ss.length * 2)) 49)).rowIs w.heap.size 49 (ss.length * 2) f0) := hf0
  clear hf0
  go_enter Try.func10, Try.ntmps10
  go_wp2
  go_loopw [4] (fun i wr => ∃ (k : Nat) (f : Nat → Value), k ≤ ss.length ∧ i = .int .i64 k ∧ wr.rowIs w.heap.size 49 (ss.length * 2) f ∧ (StatesTo w.heap.size 0 k ss wr f ∧ ∀ (j : Nat) (s : Sta), j < k → ss[j]? = some s → MarkE (w.heap.size + 1) wr.heap.size wr (f (j * 2 + 1)) s.es.length) ∧ Below w.heap.size w wr) (fun i _ => ss.length - (intOf i).toNat)
  case atStart => exact ⟨0, f0, Nat.zero_le _, rfl, HF.out, ⟨fun j s hj => absurd hj (by omega), fun j s hj => absurd hj (by omega)⟩, (Below.refl _ _).alloc (Nat.le_refl _) _⟩
  case round =>
    obtain ⟨k, f, hk, rfl, hrow, ⟨hall, hmar⟩, hb⟩ := hrel
    have HMA : Hid (∀ (j : Nat) (s : Sta), j < k → ss[j]? = some s → MarkE (w.heap.size + 1) wr.heap.size wr (f (j * 2 + 1)) s.es.length) := hmar
    have HA : Hid (StatesTo w.heap.size 0 k ss wr f) := hall
    have HB : Hid (Below w.heap.size w wr) := hb
    have HW : Hid (wr.rowIs w.heap.size 49 (ss.length * 2) f) := hrow
    clear hall hb hrow hmar
    by_cases hlt : k < ss.length
    · obtain ⟨b, off, cap', s, ev, hv, _, _, hbl, hs, c1, c2, hev⟩ := (HS.out.below HB.out).at hlt
      cases hv
      have HX : Hid (ss[k]? = some s) := hs
      have HE : Hid (EdgesIn 0 wr ev s.es) := hev
      clear hs hev
      go_wp2_with fail
      refine (toState_own _ _ _ s.es HE.out (HN.out.2 k s HX.out)).mono ?_
      rintro e w' ⟨ev', rfl, ⟨hE, hME⟩, hb'⟩
      obtain ⟨a', cap', rfl, hc', hm'⟩ := hE.form
      have HE' : Hid (EdgesIn (w.heap.size + 1) w' (.slice a' s.es.length cap') s.es) := hE.lower (by have := HW.out.lt; omega)
      have HME : Hid (MarkE (w.heap.size + 1) w'.heap.size w' (.slice a' s.es.length cap') s.es.length) := hME.weak (by have := HW.out.lt; omega) (Nat.le_refl _)
      have HMA' : Hid (∀ (j : Nat) (s : Sta), j < k → ss[j]? = some s → MarkE (w.heap.size + 1) w'.heap.size w' (f (j * 2 + 1)) s.es.length) := fun j s hj hs => ((HMA.out j s hj hs).below hb').weak (Nat.le_refl _) hb'.size
      have HA' : Hid (StatesTo w.heap.size 0 k ss w' f) := HA.out.keep hb'
      have HW' : Hid (w'.rowIs w.heap.size 49 (ss.length * 2) f) := rowIs_below HW.out hb'
      have HB' : Hid (Below w.heap.size w w') := HB.out.trans (hb'.mono HB.out.size)
      have d1 := HW'.out.cell (i := k * 2) (by omega)
      have d2 := HW'.out.cell (i := k * 2 + 1) (by omega)
      have g1 := HW'.out.frozen (k * 2)
      have g2 := HW'.out.frozen (k * 2 + 1)
      clear hb' c1 c2 hE hME
      go_wp2
      go_roundw
      case rel => exact ⟨k + 1, _, by omega, by go_num, rowIs_set2 HW'.out k _ _, ⟨HA'.out.set HX.out HE'.out, marks_next HMA'.out HX.out HME.out⟩, (HB'.out.setCell (Nat.le_refl _) _).setCell (Nat.le_refl _) _⟩
      case measure => simp [intOf]; omega
    · obtain rfl : k = ss.length := by omega
      go_wp2
      go_ret
      exact ⟨_, rfl, ⟨HA.out.done HW.out (by unfold maxLen; omega), ⟨ss.length, f, rfl, Nat.le_refl _, HW.out.lt, HW.out, fun i hi => ⟨_, HN.out.2 i _ (List.getElem?_eq_getElem hi), HMA.out i _ hi (List.getElem?_eq_getElem hi)⟩⟩⟩, HB.out⟩
end Go.Proofs.Ytbkjbkdmanaohaa
