/-
  impl.edgesOk.
-/
import Derived.Test.YtbkjbkdmanaohaaGW43
import Derived.Test.YtbkjbkdmanaohaaGM47
import Derived.Deep.QuietTactic
import Derived.BigQuiet
namespace Go.Proofs.Ytbkjbkdmanaohaa
open Go.RowKit
set_option linter.unusedVariables false
theorem below_drewN' {B : Nat} {a w : World} (h : Below B a w) (n : Nat) : Below B a (w.drewN n) := by
  induction n with
  | zero => exact h
  | succ n ih => exact ih.drew
set_option maxHeartbeats 2000000 in
theorem edgesOk_any (w : World) (v : Value) (es : List (Int × Int)) (first last : Int) (h : EdgesIn 0 w v es) :
    Calls Try.prog 51 #[v, .int .i64 first, .int .i64 last] w fun e w' => e = .returned (.bool (edsOk first last es)) ∧ Below w.heap.size w w' := by
  obtain ⟨a, cap, rfl, hc, hm⟩ := h.form
  have HS : Hid (EdgesIn 0 w (.slice a es.length cap) es) := h
  clear h
  unfold maxLen at hm
  go_enter Try.func51, Try.ntmps51
  go_wp2
  go_loopw [11] (fun i wr => ∃ (k : Nat), k ≤ es.length ∧ i = .int .i64 k ∧ (∀ j, j < k → edOk first last es j = true) ∧ Below w.heap.size w wr) (fun i _ => es.length - (intOf i).toNat)
  case atStart => exact ⟨0, Nat.zero_le _, rfl, fun j hj => absurd hj (by omega), Below.refl _ _⟩
  case round =>
    obtain ⟨k, hk, rfl, hall, hb⟩ := hrel
    have HA : Hid (∀ j, j < k → edOk first last es j = true) := hall
    have HB : Hid (Below w.heap.size w wr) := hb
    clear hall hb
    by_cases hlt : k < es.length
    · obtain ⟨b, off, cap', s, hv, _, _, hbl, hs, c1, c2⟩ := (HS.out.below HB.out).at hlt
      cases hv
      have HX : Hid (es[k]? = some s) := hs
      obtain ⟨l, t⟩ := s
      simp only at c1 c2
      clear hs
      have HR : Hid (∀ n : Nat, edOk first last es k = true → (∀ j, j < k + 1 → edOk first last es j = true) ∧ Below w.heap.size w ((wr.alloc (.cells #[.int .i64 l, .int .i64 t] 73)).drewN n)) := by
        intro n hok
        refine ⟨fun j hj => ?_, below_drewN' (HB.out.alloc HB.out.size _) _⟩
        by_cases e : j = k
        · rw [e]; exact hok
        · exact HA.out j (by omega)
      have HF : Hid (∀ n : Nat, edOk first last es k = false → edsOk first last es = false ∧ Below w.heap.size w ((wr.alloc (.cells #[.int .i64 l, .int .i64 t] 73)).drewN n)) := by
        intro n hok
        exact ⟨edsOk_false k hlt hok, below_drewN' (HB.out.alloc HB.out.size _) _⟩
      by_cases h1 : l < 97
      · have HK : Hid (edOk first last es k = false) := by
          show edOk first last es k = false
          simp only [edOk, HX.out]
          simp; omega
        go_wp2_with fail
        go_quiet (fail)
        go_wp2
        go_ret
        obtain ⟨e1, e2⟩ := HF.out _ HK.out
        rw [e1]
        exact ⟨rfl, e2⟩
      have d1 : decide (l < 97) = false := by simpa using h1
      by_cases h2 : 122 < l
      · have HK : Hid (edOk first last es k = false) := by
          show edOk first last es k = false
          simp only [edOk, HX.out]
          simp; omega
        go_wp2_with fail
        go_quiet (fail)
        go_wp2
        go_ret
        obtain ⟨e1, e2⟩ := HF.out _ HK.out
        rw [e1]
        exact ⟨rfl, e2⟩
      have d2 : decide (122 < l) = false := by simpa using h2
      have d2' : decide (l > 122) = false := by simpa using h2
      by_cases hk0 : k = 0
      · have HY : Hid (es[0]? = some (l, t)) := show es[0]? = some (l, t) by rw [← hk0]; exact HX.out
        subst hk0
        simp only [Nat.zero_mul, Nat.add_zero] at c1 c2
        by_cases h3 : t < first
        · have HK : Hid (edOk first last es 0 = false) := by
            show edOk first last es 0 = false
            rw [edOk_zero HY.out]
            simp; omega
          go_wp2_with fail
          go_quiet (fail)
          go_wp2
          go_ret
          obtain ⟨e1, e2⟩ := HF.out _ HK.out
          rw [e1]
          exact ⟨rfl, e2⟩
        have d3 : decide (t < first) = false := by simpa using h3
        by_cases h4 : last ≤ t
        · have HK : Hid (edOk first last es 0 = false) := by
            show edOk first last es 0 = false
            rw [edOk_zero HY.out]
            simp; omega
          go_wp2_with fail
          go_quiet (fail)
          go_wp2
          go_ret
          obtain ⟨e1, e2⟩ := HF.out _ HK.out
          rw [e1]
          exact ⟨rfl, e2⟩
        have d4 : decide (last ≤ t) = false := by simpa using h4
        have d4' : decide (t ≥ last) = false := by simpa using h4
        have HK : Hid (edOk first last es 0 = true) := by
          show edOk first last es 0 = true
          rw [edOk_zero HY.out]
          simp; omega
        go_wp2_with fail
        go_quiet (fail)
        go_wp2
        go_roundw
        case rel =>
          obtain ⟨e1, e2⟩ := HR.out _ HK.out
          exact ⟨1, by omega, by go_num, e1, e2⟩
        case measure => simp [intOf]; omega
      · obtain ⟨j, hj⟩ : ∃ j : Nat, k = j + 1 := ⟨k - 1, by omega⟩
        have hlt0 : j < es.length := by omega
        have hi0 : (j : Int) < (es.length : Int) := by omega
        have hk1 : (0 : Int) < (k : Int) := by omega
        have hk2 : 0 < k := by omega
        have r1 : IntKind.i64.wrap ((k : Int) - 1) = (j : Int) := by rw [IntWalk.i64_in _ (by omega)]; omega
        obtain ⟨b1, off1, cap1, p, hv, _, _, _, hp, c3, _⟩ := (HS.out.below HB.out).at hlt0
        cases hv
        have HP : Hid (es[j]? = some p) := hp
        have HX' : Hid (es[j + 1]? = some (l, t)) := show es[j + 1]? = some (l, t) by rw [← hj]; exact HX.out
        obtain ⟨q, q'⟩ := p
        simp only at c3
        have HJ : Hid (k = j + 1) := hj
        clear hp hj
        by_cases h5 : l ≤ q
        · have HK : Hid (edOk first last es k = false) := by
            show edOk first last es k = false
            rw [HJ.out, edOk_succ HP.out HX'.out]
            simp; omega
          go_wp2_with fail
          go_quiet (fail)
          go_wp2
          go_ret
          obtain ⟨e1, e2⟩ := HF.out _ HK.out
          rw [e1]
          exact ⟨rfl, e2⟩
        have d5 : decide (l ≤ q) = false := by simpa using h5
        have d5' : decide (q ≥ l) = false := by simpa using h5
        by_cases h3 : t < first
        · have HK : Hid (edOk first last es k = false) := by
            show edOk first last es k = false
            rw [HJ.out, edOk_succ HP.out HX'.out]
            simp; omega
          go_wp2_with fail
          go_quiet (fail)
          go_wp2
          go_ret
          obtain ⟨e1, e2⟩ := HF.out _ HK.out
          rw [e1]
          exact ⟨rfl, e2⟩
        have d3 : decide (t < first) = false := by simpa using h3
        by_cases h4 : last ≤ t
        · have HK : Hid (edOk first last es k = false) := by
            show edOk first last es k = false
            rw [HJ.out, edOk_succ HP.out HX'.out]
            simp; omega
          go_wp2_with fail
          go_quiet (fail)
          go_wp2
          go_ret
          obtain ⟨e1, e2⟩ := HF.out _ HK.out
          rw [e1]
          exact ⟨rfl, e2⟩
        have d4 : decide (last ≤ t) = false := by simpa using h4
        have d4' : decide (t ≥ last) = false := by simpa using h4
        have HK : Hid (edOk first last es k = true) := by
          show edOk first last es k = true
          rw [HJ.out, edOk_succ HP.out HX'.out]
          simp; omega
        go_wp2_with fail
        go_quiet (fail)
        go_wp2
        go_roundw
        case rel =>
          obtain ⟨e1, e2⟩ := HR.out _ HK.out
          exact ⟨k + 1, by omega, by go_num, e1, e2⟩
        case measure => simp [intOf]; omega
    · have HE : Hid (edsOk first last es = true) := edsOk_true (fun j hj => HA.out j (by omega))
      go_wp2
      go_ret
      rw [HE.out]
      exact ⟨rfl, HB.out⟩
end Go.Proofs.Ytbkjbkdmanaohaa
/-
  impl.longestKnown.
-/
namespace Go.Proofs.Ytbkjbkdmanaohaa
open Go.RowKit
set_option linter.unusedVariables false
theorem rowIs_mid {w : World} {g : Nat} {t : TypeId} {n : Nat} {D : Nat → Int} {p : Nat} {acc x : Int} (h : w.rowIs g t n (midRow D p acc)) : (w.setCell ⟨g, p, none⟩ (.int .i64 x)).rowIs g t n (midRow D p x) :=
  (h.set p (.int .i64 x)).congr (fun j _ => by
    unfold midRow
    by_cases e : j = p
    · simp [e]
    · simp [e])
theorem rowIs_start {w : World} {g : Nat} {t : TypeId} {n : Nat} {D : Nat → Int} {p : Nat} {acc : Int} (h : w.rowIs g t n (tabRow D)) (h0 : D p = acc) : w.rowIs g t n (midRow D p acc) :=
  h.congr (fun j _ => by
    unfold midRow tabRow
    by_cases e : j = p
    · simp [e, h0]
    · simp [e])
theorem rowIs_next {w : World} {g : Nat} {t : TypeId} {ss : List Sta} {f : Int → Int → Int} {z : Bool → Int} {p : Nat} {s : Sta} (hs : ss[p]? = some s) {acc : Int} (h : w.rowIs g t ss.length (midRow (tab f z ss (ss.length - (p + 1))) p acc))
    (ha : acc = foldE f (tab f z ss (ss.length - (p + 1))) s.es (z s.ends)) : w.rowIs g t ss.length (tabRow (tab f z ss (ss.length - p))) :=
  h.congr (fun j _ => by
    unfold midRow tabRow
    rw [tab_next f z ss p s hs j]
    by_cases e : j = p
    · simp [e, ha]
    · simp [e])
theorem Try.info_int64 : (Try.prog.info? 3).map (fun i => (i.zero, i.size, i.bytes)) = some (some (.int .i64 0), 1, 8) := by kernel_rfl
theorem run_mx2 (ts : Array TypeId) (t : TypeId) (x y : Int) (w : World) : (Builtin.max_ ts t #[.int .i64 x, .int .i64 y]).run Try.prog w = .ok (.int .i64 (mx x y)) w := run_max_int2 _ _ _ _ _ _ _
set_option maxHeartbeats 2000000 in
theorem longestKnown_any (w : World) (v : Value) (ss : List Sta) (h : StatesAt w v ss) (hok : stasOk ss = true) (h1 : 1 ≤ ss.length) (h4 : ss.length ≤ 400) :
    Calls Try.prog 52 #[v] w fun e w' => e = .returned (.int .i64 (tab deepF deepZ ss ss.length 0)) ∧ Below w.heap.size w w' := by
  obtain ⟨a, cap, rfl, hc, hm⟩ := h.form
  have HS : Hid (StatesAt w (.slice a ss.length cap) ss) := h
  have HO : Hid (stasOk ss = true) := hok
  have HT := tab_deep_bound ss
  have HT' : Hid (∀ (k j : Nat), 0 ≤ tab deepF deepZ ss k j ∧ tab deepF deepZ ss k j ≤ k) := HT
  clear h hok HT
  unfold maxLen at hm
  have hmk := run_make_row' (P := Try.prog) 58 3 (.int .i64 0) 8 Try.underlying58 Try.info_int64 rfl .i64 .i64 ss.length (by omega) (by omega)
  have HF : Hid ((w.alloc (.cells (madeCells #[.int .i64 0] ss.length) 3)).rowIs w.heap.size 3 ss.length (tabRow (tab deepF deepZ ss (ss.length - ss.length)))) := by
    have := World.rowIs_made w (.int .i64 0) ss.length 3
    exact this.congr (fun j _ => by simp [tabRow, tab])
  go_enter Try.func52, Try.ntmps52
  go_wp2
  go_loopw [4] (fun i wr => ∃ (q : Nat), q ≤ ss.length ∧ i = .int .i64 ((q : Int) - 1) ∧ wr.rowIs w.heap.size 3 ss.length (tabRow (tab deepF deepZ ss (ss.length - q))) ∧ Below w.heap.size w wr) (fun i _ => (intOf i + 1).toNat)
  case atStart => exact ⟨ss.length, Nat.le_refl _, rfl, HF.out, (Below.refl _ _).alloc (Nat.le_refl _) _⟩
  case round =>
    rename World => wo
    obtain ⟨q, hq, rfl, hrow, hb⟩ := hrel
    have HB : Hid (Below w.heap.size w wo) := hb
    have HW : Hid (wo.rowIs w.heap.size 3 ss.length (tabRow (tab deepF deepZ ss (ss.length - q)))) := hrow
    clear hb hrow
    cases q with
    | zero =>
      have d0 : wo.cell? ⟨w.heap.size, 0, none⟩ = some (.int .i64 (tab deepF deepZ ss ss.length 0)) := HW.out.cell (i := 0) (by omega)
      go_wp2
      go_ret
      exact ⟨rfl, HB.out⟩
    | succ p =>
      rw [show ((p + 1 : Nat) : Int) - 1 = (p : Int) by omega]
      obtain ⟨b, off, cap', s, ev, hv, _, _, hbl0, hs, _, c20, hev⟩ := HS.out.at (k := p) (by omega)
      cases hv
      obtain ⟨ea, ecap, rfl, hec, hem⟩ := hev.form
      have c2 := (HB.out.cell (p := ⟨b, off + p * 2 + 1, none⟩) hbl0).trans c20
      have hbl : b < wo.heap.size := Nat.lt_of_lt_of_le hbl0 HB.out.size
      have HX : Hid (ss[p]? = some s) := hs
      have HE : Hid (EdgesIn 0 w (.slice ea s.es.length ecap) s.es) := hev
      have hpl : p < ss.length := by omega
      have HZ : Hid (tab deepF deepZ ss (ss.length - (p + 1)) p = foldE deepF (tab deepF deepZ ss (ss.length - (p + 1))) (s.es.take 0) 0) := by
        show _ = _
        rw [tab_low deepF deepZ ss _ p (by omega) (by omega)]
        rfl
      have HTp : Hid (∀ j, 0 ≤ tab deepF deepZ ss (ss.length - (p + 1)) j ∧ tab deepF deepZ ss (ss.length - (p + 1)) j ≤ 400) := fun j => by
        have := HT'.out (ss.length - (p + 1)) j
        omega
      clear hs hev c20
      unfold maxLen at hem
      go_wp2
      go_loopw [23] (fun i wr => ∃ (k : Nat), k ≤ s.es.length ∧ i = .int .i64 k ∧ wr.rowIs w.heap.size 3 ss.length (midRow (tab deepF deepZ ss (ss.length - (p + 1))) p (foldE deepF (tab deepF deepZ ss (ss.length - (p + 1))) (s.es.take k) 0)) ∧ Below w.heap.size w wr) (fun i _ => s.es.length - (intOf i).toNat)
      case atStart => exact ⟨0, Nat.zero_le _, rfl, rowIs_start HW.out HZ.out, HB.out⟩
      case round =>
        obtain ⟨k, hk, rfl, hrow, hb⟩ := hrel
        have HBk : Hid (Below w.heap.size w wr) := hb
        have HWk : Hid (wr.rowIs w.heap.size 3 ss.length (midRow (tab deepF deepZ ss (ss.length - (p + 1))) p (foldE deepF (tab deepF deepZ ss (ss.length - (p + 1))) (s.es.take k) 0))) := hrow
        clear hb hrow c2
        by_cases hlt : k < s.es.length
        · obtain ⟨eb, eoff, ecap', e, hv, _, _, hebl, he, e1, e2⟩ := (HE.out.below HBk.out).at hlt
          cases hv
          obtain ⟨t, ht, hpt, htl⟩ := edge_to HO.out HX.out he
          have HS2 : Hid (foldE deepF (tab deepF deepZ ss (ss.length - (p + 1))) (s.es.take (k + 1)) 0 = mx (foldE deepF (tab deepF deepZ ss (ss.length - (p + 1))) (s.es.take k) 0) (tab deepF deepZ ss (ss.length - (p + 1)) t + 1)) := by
            show _ = _
            rw [foldE_take _ _ _ _ he, mx_deep, ht]
            rfl
          obtain ⟨l, t'⟩ := e
          simp only at ht e1 e2
          subst ht
          have d1 := HWk.out.cell (i := p) (by omega)
          have d2 := HWk.out.cell (i := t) (by omega)
          rw [midRow_at] at d1
          rw [midRow_to _ _ _ (by omega)] at d2
          have g1 := HWk.out.frozen p
          have hg := HWk.out.lt
          have hD := HTp.out t
          generalize foldE deepF (tab deepF deepZ ss (ss.length - (p + 1))) (s.es.take k) 0 = acc at *
          generalize hdd : tab deepF deepZ ss (ss.length - (p + 1)) t = dt at *
          have hmx := fun ts t' x y w => run_mx2 ts t' x y w
          clear he hdd
          go_wp2
          go_region
          all_goals
            go_wp2
            go_roundw
            case rel => exact ⟨k + 1, by omega, by go_num, by rw [HS2.out]; exact ((rowIs_mid HWk.out).alloc _).drew, ((HBk.out.setCell (Nat.le_refl _) _).alloc (by rw [Go.Deep.nblk_setCell]; exact HBk.out.size) _).drew⟩
            case measure => simp [intOf]; omega
        · have hke : s.es.take k = s.es := List.take_of_length_le (by omega)
          rw [hke] at HWk
          have HN : Hid (wr.rowIs w.heap.size 3 ss.length (tabRow (tab deepF deepZ ss (ss.length - p)))) := rowIs_next HX.out HWk.out rfl
          clear hke
          go_wp2
          go_roundw
          case rel => exact ⟨p, by omega, rfl, HN.out, HBk.out⟩
          case measure => simp [intOf]
end Go.Proofs.Ytbkjbkdmanaohaa
/-
  spec.l3Deep.
-/
namespace Go.Proofs.Ytbkjbkdmanaohaa
open Go.RowKit
set_option linter.unusedVariables false
set_option maxHeartbeats 2000000 in
theorem l3Deep_any (w : World) (v : Value) (ss : List Sta) (h : StatesAt w v ss) (hok : stasOk ss = true) (h1 : 1 ≤ ss.length) (h4 : ss.length ≤ 400) :
    Calls Try.prog 49 #[v] w fun e w' => e = .returned (.int .i64 (tab deepF deepZ ss ss.length 0)) ∧ Below w.heap.size w w' := by
  obtain ⟨a, cap, rfl, hc, hm⟩ := h.form
  have HS : Hid (StatesAt w (.slice a ss.length cap) ss) := h
  have HO : Hid (stasOk ss = true) := hok
  have HT := tab_deep_bound ss
  have HT' : Hid (∀ (k j : Nat), 0 ≤ tab deepF deepZ ss k j ∧ tab deepF deepZ ss k j ≤ k) := HT
  clear h hok HT
  unfold maxLen at hm
  have hmk := run_make_row' (P := Try.prog) 58 3 (.int .i64 0) 8 Try.underlying58 Try.info_int64 rfl .i64 .i64 ss.length (by omega) (by omega)
  have HF : Hid ((w.alloc (.cells (madeCells #[.int .i64 0] ss.length) 3)).rowIs w.heap.size 3 ss.length (tabRow (tab deepF deepZ ss (ss.length - ss.length)))) := by
    have := World.rowIs_made w (.int .i64 0) ss.length 3
    exact this.congr (fun j _ => by simp [tabRow, tab])
  go_enter Try.func49, Try.ntmps49
  go_wp2
  go_loopw [4] (fun i wr => ∃ (q : Nat), q ≤ ss.length ∧ i = .int .i64 ((q : Int) - 1) ∧ wr.rowIs w.heap.size 3 ss.length (tabRow (tab deepF deepZ ss (ss.length - q))) ∧ Below w.heap.size w wr) (fun i _ => (intOf i + 1).toNat)
  case atStart => exact ⟨ss.length, Nat.le_refl _, rfl, HF.out, (Below.refl _ _).alloc (Nat.le_refl _) _⟩
  case round =>
    rename World => wo
    obtain ⟨q, hq, rfl, hrow, hb⟩ := hrel
    have HB : Hid (Below w.heap.size w wo) := hb
    have HW : Hid (wo.rowIs w.heap.size 3 ss.length (tabRow (tab deepF deepZ ss (ss.length - q)))) := hrow
    clear hb hrow
    cases q with
    | zero =>
      have d0 : wo.cell? ⟨w.heap.size, 0, none⟩ = some (.int .i64 (tab deepF deepZ ss ss.length 0)) := HW.out.cell (i := 0) (by omega)
      go_wp2
      go_ret
      exact ⟨rfl, HB.out⟩
    | succ p =>
      rw [show ((p + 1 : Nat) : Int) - 1 = (p : Int) by omega]
      obtain ⟨b, off, cap', s, ev, hv, _, _, hbl0, hs, _, c20, hev⟩ := HS.out.at (k := p) (by omega)
      cases hv
      obtain ⟨ea, ecap, rfl, hec, hem⟩ := hev.form
      have c2 := (HB.out.cell (p := ⟨b, off + p * 2 + 1, none⟩) hbl0).trans c20
      have hbl : b < wo.heap.size := Nat.lt_of_lt_of_le hbl0 HB.out.size
      have HX : Hid (ss[p]? = some s) := hs
      have HE : Hid (EdgesIn 0 w (.slice ea s.es.length ecap) s.es) := hev
      have hpl : p < ss.length := by omega
      have HZ : Hid (tab deepF deepZ ss (ss.length - (p + 1)) p = foldE deepF (tab deepF deepZ ss (ss.length - (p + 1))) (s.es.take 0) 0) := by
        show _ = _
        rw [tab_low deepF deepZ ss _ p (by omega) (by omega)]
        rfl
      have HTp : Hid (∀ j, 0 ≤ tab deepF deepZ ss (ss.length - (p + 1)) j ∧ tab deepF deepZ ss (ss.length - (p + 1)) j ≤ 400) := fun j => by
        have := HT'.out (ss.length - (p + 1)) j
        omega
      clear hs hev
      unfold maxLen at hem
      go_wp2
      go_loopw [5] (fun i wr => ∃ (k : Nat), k ≤ s.es.length ∧ i = .int .i64 k ∧ wr.rowIs w.heap.size 3 ss.length (midRow (tab deepF deepZ ss (ss.length - (p + 1))) p (foldE deepF (tab deepF deepZ ss (ss.length - (p + 1))) (s.es.take k) 0)) ∧ Below w.heap.size w wr) (fun i _ => s.es.length - (intOf i).toNat)
      case atStart => exact ⟨0, Nat.zero_le _, rfl, rowIs_start HW.out HZ.out, HB.out⟩
      case round =>
        obtain ⟨k, hk, rfl, hrow, hb⟩ := hrel
        have HBk : Hid (Below w.heap.size w wr) := hb
        have HWk : Hid (wr.rowIs w.heap.size 3 ss.length (midRow (tab deepF deepZ ss (ss.length - (p + 1))) p (foldE deepF (tab deepF deepZ ss (ss.length - (p + 1))) (s.es.take k) 0))) := hrow
        clear hb hrow
        by_cases hlt : k < s.es.length
        · obtain ⟨eb, eoff, ecap', e, hv, _, _, hebl, he, e1, e2⟩ := (HE.out.below HBk.out).at hlt
          cases hv
          obtain ⟨t, ht, hpt, htl⟩ := edge_to HO.out HX.out he
          have HS2 : Hid (foldE deepF (tab deepF deepZ ss (ss.length - (p + 1))) (s.es.take (k + 1)) 0 = mx (foldE deepF (tab deepF deepZ ss (ss.length - (p + 1))) (s.es.take k) 0) (tab deepF deepZ ss (ss.length - (p + 1)) t + 1)) := by
            show _ = _
            rw [foldE_take _ _ _ _ he, mx_deep, ht]
            rfl
          obtain ⟨l, t'⟩ := e
          simp only at ht e1 e2
          subst ht
          have d1 := HWk.out.cell (i := p) (by omega)
          have d2 := HWk.out.cell (i := t) (by omega)
          rw [midRow_at] at d1
          rw [midRow_to _ _ _ (by omega)] at d2
          have g1 := HWk.out.frozen p
          have hg := HWk.out.lt
          have hD := HTp.out t
          generalize foldE deepF (tab deepF deepZ ss (ss.length - (p + 1))) (s.es.take k) 0 = acc at *
          generalize hdd : tab deepF deepZ ss (ss.length - (p + 1)) t = dt at *
          have c2 := (HBk.out.cell (p := ⟨b, off + p * 2 + 1, none⟩) hbl0).trans c20
          have hbl2 : b < wr.heap.size := Nat.lt_of_lt_of_le hbl0 HBk.out.size
          clear he hdd
          by_cases hmx : dt + 1 > acc
          · have HM : Hid (mx acc (dt + 1) = dt + 1) := if_pos hmx
            go_wp2
            go_roundw
            case rel => exact ⟨k + 1, by omega, by go_num, by rw [HS2.out, HM.out]; exact rowIs_mid HWk.out, HBk.out.setCell (Nat.le_refl _) _⟩
            case measure => simp [intOf]; omega
          · have HM : Hid (mx acc (dt + 1) = acc) := if_neg hmx
            go_wp2
            go_roundw
            case rel => exact ⟨k + 1, by omega, by go_num, by rw [HS2.out, HM.out]; exact HWk.out, HBk.out⟩
            case measure => simp [intOf]; omega
        · have hke : s.es.take k = s.es := List.take_of_length_le (by omega)
          rw [hke] at HWk
          have HN : Hid (wr.rowIs w.heap.size 3 ss.length (tabRow (tab deepF deepZ ss (ss.length - p)))) := rowIs_next HX.out HWk.out rfl
          have c2' := (HBk.out.cell (p := ⟨b, off + p * 2 + 1, none⟩) hbl0).trans c20
          have hbl2 : b < wr.heap.size := Nat.lt_of_lt_of_le hbl0 HBk.out.size
          clear hke
          go_wp2
          go_roundw
          case rel => exact ⟨p, by omega, rfl, HN.out, HBk.out⟩
          case measure => simp [intOf]
end Go.Proofs.Ytbkjbkdmanaohaa
/-
  impl.MachineOk.
-/
namespace Go.Proofs.Ytbkjbkdmanaohaa
open Go.RowKit
set_option linter.unusedVariables false
theorem machT_short {ss : List Sta} (h : ¬ (1 ≤ ss.length ∧ ss.length ≤ 400)) : machT ss = false := by
  unfold machT
  by_cases h1 : 1 ≤ ss.length
  · have h2 : ¬ ss.length ≤ 400 := fun h2 => h ⟨h1, h2⟩
    simp [h2]
  · simp [h1]
theorem machT_bad {ss : List Sta} {i : Nat} {s : Sta} (hs : ss[i]? = some s) (h : staOk ss.length i s = false) : machT ss = false := by
  unfold machT
  rw [stasOk_false hs h]
  simp
theorem machT_all {ss : List Sta} (h1 : 1 ≤ ss.length) (h4 : ss.length ≤ 400) (h : stasOk ss = true) : machT ss = decide (tab deepF deepZ ss ss.length 0 ≤ 12) := by
  unfold machT
  simp [h1, h4, h]
theorem staOk_zero {n : Nat} {s : Sta} : staOk n 0 s = edsOk 1 n s.es := by simp [staOk]
theorem staOk_pos {n i : Nat} {s : Sta} (hi : 0 < i) : staOk n i s = (edsOk (i + 1) n s.es && !(!s.ends && s.es.isEmpty)) := by simp [staOk, hi]
set_option maxHeartbeats 2000000 in
theorem implMachineOk_any (w : World) (v : Value) (ss : List Sta) (h : StatesAt w v ss) :
    Calls Try.prog 29 #[v] w fun e w' => e = .returned (.bool (machT ss)) ∧ Below w.heap.size w w' := by
  obtain ⟨a, cap, rfl, hc, hm⟩ := h.form
  have HS : Hid (StatesAt w (.slice a ss.length cap) ss) := h
  clear h
  unfold maxLen at hm
  by_cases hsh : 1 ≤ ss.length ∧ ss.length ≤ 400
  · obtain ⟨h1, h4⟩ := hsh
    have h1' : ¬ ((ss.length : Int) < 1) := by omega
    have h4' : ¬ ((ss.length : Int) > 400) := by omega
    go_enter Try.func29, Try.ntmps29
    go_wp2
    go_loopw [15] (fun i wr => ∃ (k : Nat), k ≤ ss.length ∧ i = .int .i64 k ∧ (∀ (j : Nat) (s : Sta), j < k → ss[j]? = some s → staOk ss.length j s = true) ∧ Below w.heap.size w wr) (fun i _ => ss.length - (intOf i).toNat)
    case atStart => exact ⟨0, Nat.zero_le _, rfl, fun j s hj => absurd hj (by omega), Below.refl _ _⟩
    case round =>
      obtain ⟨k, hk, rfl, hall, hb⟩ := hrel
      have HA : Hid (∀ (j : Nat) (s : Sta), j < k → ss[j]? = some s → staOk ss.length j s = true) := hall
      have HB : Hid (Below w.heap.size w wr) := hb
      clear hall hb
      by_cases hlt : k < ss.length
      · obtain ⟨b, off, cap', s, ev, hv, _, _, hbl, hs, c1, c2, hev⟩ := (HS.out.below HB.out).at hlt
        cases hv
        obtain ⟨ea, ecap, rfl, hec, hem⟩ := hev.form
        have HX : Hid (ss[k]? = some s) := hs
        have HE : Hid (EdgesIn 0 wr (.slice ea s.es.length ecap) s.es) := hev
        clear hs hev
        unfold maxLen at hem
        have HG : Hid (staOk ss.length k s = true → ∀ (j : Nat) (x : Sta), j < k + 1 → ss[j]? = some x → staOk ss.length j x = true) := by
          intro hg j x hj hx
          by_cases e : j = k
          · subst e
            rw [HX.out] at hx
            cases hx
            exact hg
          · exact HA.out j x (by omega) hx
        go_wp2_with fail
        refine (edgesOk_any _ _ s.es _ _ (HE.out.below ((Below.refl _ _).alloc (Nat.le_refl _) _))).mono ?_
        rintro e w' ⟨rfl, hb'⟩
        obtain ⟨hcl, hfz⟩ := bcell2 hb'
        have hz := hb'.size
        have HB' : Hid (Below w.heap.size w w') := (HB.out.alloc HB.out.size _).trans (hb'.mono (by have := HB.out.size; simp; omega))
        simp at hz
        clear hb' c1 c2
        cases hed : edsOk ((k : Int) + 1) (ss.length : Int) s.es with
        | false =>
          have HM : Hid (machT ss = false) := machT_bad HX.out (by simp [staOk, hed])
          go_wp2
          go_ret
          rw [HM.out]
          exact ⟨rfl, HB'.out⟩
        | true =>
          by_cases hk0 : k = 0
          · have HK : Hid (staOk ss.length k s = true) := by show staOk ss.length k s = true; rw [staOk, hed]; simp [hk0]
            have hk1 : ¬ ((k : Int) > 0) := by omega
            go_wp2
            go_roundw
            case rel => exact ⟨k + 1, by omega, by go_num, HG.out HK.out, HB'.out⟩
            case measure => simp [intOf]; omega
          · have hk1 : (k : Int) > 0 := by omega
            have hk2 : 0 < k := by omega
            cases hen : s.ends with
            | true =>
              have HK : Hid (staOk ss.length k s = true) := by show staOk ss.length k s = true; simp [staOk, hed, hen]
              go_wp2
              go_roundw
              case rel => exact ⟨k + 1, by omega, by go_num, HG.out HK.out, HB'.out⟩
              case measure => simp [intOf]; omega
            | false =>
              by_cases hl : s.es.length = 0
              · have HM : Hid (machT ss = false) := machT_bad HX.out (by rw [staOk_pos hk2, hen, List.isEmpty_iff_length_eq_zero.2 hl]; simp)
                have hli : (s.es.length : Int) = 0 := by omega
                go_wp2
                go_ret
                rw [HM.out]
                exact ⟨rfl, HB'.out⟩
              · have HK : Hid (staOk ss.length k s = true) := by
                  show staOk ss.length k s = true
                  rw [staOk_pos hk2, hed]
                  have : s.es.isEmpty = false := by cases hh : s.es with | nil => simp [hh] at hl | cons => rfl
                  simp [this]
                have hli : ¬ (s.es.length : Int) = 0 := by omega
                go_wp2
                go_roundw
                case rel => exact ⟨k + 1, by omega, by go_num, HG.out HK.out, HB'.out⟩
                case measure => simp [intOf]; omega
      · have HO : Hid (stasOk ss = true) := stasOk_true (fun i s hs => HA.out i s (by have := (List.getElem?_eq_some_iff.1 hs).1; omega) hs)
        have HM : Hid (machT ss = decide (tab deepF deepZ ss ss.length 0 ≤ 12)) := machT_all h1 h4 HO.out
        go_wp2_with fail
        refine (longestKnown_any _ _ ss (HS.out.below HB.out) HO.out h1 h4).mono ?_
        rintro e w' ⟨rfl, hb'⟩
        have HB' : Hid (Below w.heap.size w w') := HB.out.trans (hb'.mono HB.out.size)
        clear hb'
        go_wp2
        go_ret
        rw [HM.out]
        exact ⟨rfl, HB'.out⟩
  · have HM : Hid (machT ss = false) := machT_short hsh
    by_cases h1 : (ss.length : Int) < 1
    · go_enter Try.func29, Try.ntmps29
      go_wp2
      go_ret
      rw [HM.out]
      exact ⟨rfl, Below.refl _ _⟩
    · have h4 : (ss.length : Int) > 400 := by omega
      clear hsh
      go_enter Try.func29, Try.ntmps29
      go_wp2
      go_ret
      rw [HM.out]
      exact ⟨rfl, Below.refl _ _⟩
end Go.Proofs.Ytbkjbkdmanaohaa
/-
  spec.l1In, spec.MachineOk.
-/
namespace Go.Proofs.Ytbkjbkdmanaohaa
open Go.RowKit
set_option linter.unusedVariables false
/-- A number lies between two. -/
def inT (n lo hi : Int) : Bool := decide (lo ≤ n) && decide (n ≤ hi)
set_option maxHeartbeats 1000000 in
theorem l1In_any (n lo hi : Int) (w : World) : Calls Try.prog 37 #[.int .i64 n, .int .i64 lo, .int .i64 hi] w fun e w' => e = .returned (.bool (inT n lo hi)) ∧ w' = w := by
  by_cases h1 : lo ≤ n
  · have HI : Hid (inT n lo hi = decide (n ≤ hi)) := show inT n lo hi = decide (n ≤ hi) by simp [inT, h1]
    have h1' : n ≥ lo := h1
    go_enter Try.func37, Try.ntmps37
    go_wp2
    go_ret
    rw [HI.out]
    exact ⟨rfl, rfl⟩
  · have HI : Hid (inT n lo hi = false) := show inT n lo hi = false by simp [inT, h1]
    go_enter Try.func37, Try.ntmps37
    go_wp2
    go_ret
    rw [HI.out]
    exact ⟨rfl, rfl⟩
theorem l1In_is {n lo hi : Int} {b : Bool} (h : inT n lo hi = b) (w : World) : Calls Try.prog 37 #[.int .i64 n, .int .i64 lo, .int .i64 hi] w fun e w' => e = .returned (.bool b) ∧ w' = w := by
  rw [← h]; exact l1In_any n lo hi w
set_option maxRecDepth 100000 in
set_option maxHeartbeats 4000000 in
theorem specMachineOk_any (w : World) (v : Value) (ss : List Sta) (h : StatesAt w v ss) :
    Calls Try.prog 26 #[v] w fun e w' => e = .returned (.bool (machT ss)) ∧ Below w.heap.size w w' := by
  obtain ⟨a, cap, rfl, hc, hm⟩ := h.form
  have HS : Hid (StatesAt w (.slice a ss.length cap) ss) := h
  clear h
  unfold maxLen at hm
  go_enter Try.func26, Try.ntmps26
  go_wp2
  go_loopw [3] (fun i wr => ∃ (p : Nat), p ≤ ss.length ∧ i = .int .i64 p ∧ (∀ (j : Nat) (s : Sta), j < p → ss[j]? = some s → staOk ss.length j s = true) ∧ Below w.heap.size w wr) (fun i _ => ss.length - (intOf i).toNat)
  case atStart => exact ⟨0, Nat.zero_le _, rfl, fun j s hj => absurd hj (by omega), Below.refl _ _⟩
  case round =>
    rename World => wo
    obtain ⟨p, hp, rfl, hall, hb⟩ := hrel
    have HA : Hid (∀ (j : Nat) (s : Sta), j < p → ss[j]? = some s → staOk ss.length j s = true) := hall
    have HB : Hid (Below w.heap.size w wo) := hb
    clear hall hb
    by_cases hplt : p < ss.length
    · obtain ⟨b, off, cap', s, ev, hv, _, _, hbl0, hs, c10, c20, hev⟩ := HS.out.at hplt
      cases hv
      obtain ⟨ea, ecap, rfl, hec, hem⟩ := hev.form
      have HX : Hid (ss[p]? = some s) := hs
      have HE : Hid (EdgesIn 0 w (.slice ea s.es.length ecap) s.es) := hev
      clear hs hev
      unfold maxLen at hem
      go_wp2
      go_loopw [4] (fun i wr => ∃ (k : Nat), k ≤ s.es.length ∧ i = .int .i64 k ∧ (∀ (j : Nat), j < k → edOk ((p : Int) + 1) ss.length s.es j = true) ∧ Below w.heap.size w wr) (fun i _ => s.es.length - (intOf i).toNat)
      case atStart => exact ⟨0, Nat.zero_le _, rfl, fun j hj => absurd hj (by omega), HB.out⟩
      case round =>
        obtain ⟨k, hk, rfl, hall, hb⟩ := hrel
        have HAk : Hid (∀ (j : Nat), j < k → edOk ((p : Int) + 1) ss.length s.es j = true) := hall
        have HBk : Hid (Below w.heap.size w wr) := hb
        have c1 := (HBk.out.cell (p := ⟨b, off + p * 2, none⟩) hbl0).trans c10
        have c2 := (HBk.out.cell (p := ⟨b, off + p * 2 + 1, none⟩) hbl0).trans c20
        have hbl : b < wr.heap.size := Nat.lt_of_lt_of_le hbl0 HBk.out.size
        clear hall hb
        by_cases hlt : k < s.es.length
        · obtain ⟨eb, eoff, ecap', e, hv, _, _, hebl, he, e1, e2⟩ := (HE.out.below HBk.out).at hlt
          cases hv
          have HX2 : Hid (s.es[k]? = some e) := he
          obtain ⟨l, t⟩ := e
          simp only at e1 e2
          clear he
          have HR : Hid (∀ n : Nat, edOk ((p : Int) + 1) ss.length s.es k = true → (∀ j, j < k + 1 → edOk ((p : Int) + 1) ss.length s.es j = true) ∧ Below w.heap.size w ((wr.alloc (.cells #[.int .i64 l, .int .i64 t] 73)).drewN n)) := by
            intro n hok
            refine ⟨fun j hj => ?_, below_drewN' (HBk.out.alloc HBk.out.size _) _⟩
            by_cases e : j = k
            · rw [e]; exact hok
            · exact HAk.out j (by omega)
          have HF : Hid (∀ n : Nat, edOk ((p : Int) + 1) ss.length s.es k = false → machT ss = false ∧ Below w.heap.size w ((wr.alloc (.cells #[.int .i64 l, .int .i64 t] 73)).drewN n)) := by
            intro n hok
            refine ⟨machT_bad HX.out ?_, below_drewN' (HBk.out.alloc HBk.out.size _) _⟩
            rw [staOk, edsOk_false k hlt hok]
            simp
          cases h1 : inT l 97 122 with
          | false =>
            have HK : Hid (edOk ((p : Int) + 1) ss.length s.es k = false) := by
              show edOk _ _ _ _ = false
              simp only [edOk, HX2.out]
              simp [inT] at h1 ⊢
              omega
            go_wp2_with fail
            go_quiet ((first | (go_at_call_of 37 (Value.int .i64 l); refine (l1In_is h1 _).mono ?_; rintro e w'' ⟨rfl, rfl⟩; exact ⟨rfl, _, rfl⟩)))
            go_wp2
            go_ret
            obtain ⟨e1, e2⟩ := HF.out _ HK.out
            rw [e1]
            exact ⟨rfl, e2⟩
          | true =>
            cases h2 : inT t ((p : Int) + 1) ((ss.length : Int) - 1) with
            | false =>
              have HK : Hid (edOk ((p : Int) + 1) ss.length s.es k = false) := by
                show edOk _ _ _ _ = false
                simp only [edOk, HX2.out]
                simp [inT] at h1 h2 ⊢
                omega
              go_wp2_with fail
              go_quiet ((first | (go_at_call_of 37 (Value.int .i64 l); refine (l1In_is h1 _).mono ?_; rintro e w'' ⟨rfl, rfl⟩; exact ⟨rfl, _, rfl⟩) | (go_at_call_of 37 (Value.int .i64 t); refine (l1In_is h2 _).mono ?_; rintro e w'' ⟨rfl, rfl⟩; exact ⟨rfl, _, rfl⟩)))
              go_wp2
              go_ret
              obtain ⟨e1, e2⟩ := HF.out _ HK.out
              rw [e1]
              exact ⟨rfl, e2⟩
            | true =>
              by_cases hk0 : k = 0
              · have HY : Hid (s.es[0]? = some (l, t)) := show s.es[0]? = some (l, t) by rw [← hk0]; exact HX2.out
                subst hk0
                simp only [Nat.zero_mul, Nat.add_zero] at e1 e2
                have HK : Hid (edOk ((p : Int) + 1) ss.length s.es 0 = true) := by
                  show edOk _ _ _ _ = true
                  rw [edOk_zero HY.out]
                  simp [inT] at h1 h2 ⊢
                  omega
                go_wp2_with fail
                go_quiet ((first | (go_at_call_of 37 (Value.int .i64 l); refine (l1In_is h1 _).mono ?_; rintro e w'' ⟨rfl, rfl⟩; exact ⟨rfl, _, rfl⟩) | (go_at_call_of 37 (Value.int .i64 t); refine (l1In_is h2 _).mono ?_; rintro e w'' ⟨rfl, rfl⟩; exact ⟨rfl, _, rfl⟩)))
                go_wp2
                go_roundw
                case rel =>
                  obtain ⟨e1, e2⟩ := HR.out _ HK.out
                  exact ⟨1, by omega, by go_num, e1, e2⟩
                case measure => simp [intOf]; omega
              · obtain ⟨j, hj⟩ : ∃ j : Nat, k = j + 1 := ⟨k - 1, by omega⟩
                have hlt0 : j < s.es.length := by omega
                have hi0 : (j : Int) < (s.es.length : Int) := by omega
                have hk1 : (0 : Int) < (k : Int) := by omega
                have hk2 : 0 < k := by omega
                have r1 : IntKind.i64.wrap ((k : Int) - 1) = (j : Int) := by rw [IntWalk.i64_in _ (by omega)]; omega
                obtain ⟨b1, off1, cap1, q, hv, _, _, _, hq, e3, _⟩ := (HE.out.below HBk.out).at hlt0
                cases hv
                have HP : Hid (s.es[j]? = some q) := hq
                have HX' : Hid (s.es[j + 1]? = some (l, t)) := show s.es[j + 1]? = some (l, t) by rw [← hj]; exact HX2.out
                obtain ⟨q, q'⟩ := q
                simp only at e3
                have HJ : Hid (k = j + 1) := hj
                clear hq hj
                by_cases h5 : l ≤ q
                · have HK : Hid (edOk ((p : Int) + 1) ss.length s.es k = false) := by
                    show edOk _ _ _ _ = false
                    rw [HJ.out, edOk_succ HP.out HX'.out]
                    simp [inT] at h1 h2 ⊢
                    omega
                  go_wp2_with fail
                  go_quiet ((first | (go_at_call_of 37 (Value.int .i64 l); refine (l1In_is h1 _).mono ?_; rintro e w'' ⟨rfl, rfl⟩; exact ⟨rfl, _, rfl⟩) | (go_at_call_of 37 (Value.int .i64 t); refine (l1In_is h2 _).mono ?_; rintro e w'' ⟨rfl, rfl⟩; exact ⟨rfl, _, rfl⟩)))
                  go_wp2
                  go_ret
                  obtain ⟨e1, e2⟩ := HF.out _ HK.out
                  rw [e1]
                  exact ⟨rfl, e2⟩
                have d5 : decide (l ≤ q) = false := by simpa using h5
                have d5' : decide (q ≥ l) = false := by simpa using h5
                have HK : Hid (edOk ((p : Int) + 1) ss.length s.es k = true) := by
                  show edOk _ _ _ _ = true
                  rw [HJ.out, edOk_succ HP.out HX'.out]
                  simp [inT] at h1 h2 ⊢
                  omega
                go_wp2_with fail
                go_quiet ((first | (go_at_call_of 37 (Value.int .i64 l); refine (l1In_is h1 _).mono ?_; rintro e w'' ⟨rfl, rfl⟩; exact ⟨rfl, _, rfl⟩) | (go_at_call_of 37 (Value.int .i64 t); refine (l1In_is h2 _).mono ?_; rintro e w'' ⟨rfl, rfl⟩; exact ⟨rfl, _, rfl⟩)))
                go_wp2
                go_roundw
                case rel =>
                  obtain ⟨e1, e2⟩ := HR.out _ HK.out
                  exact ⟨k + 1, by omega, by go_num, e1, e2⟩
                case measure => simp [intOf]; omega
        · have HO : Hid (edsOk ((p : Int) + 1) ss.length s.es = true) := edsOk_true (fun j hj => HAk.out j (by omega))
          have HG : Hid (staOk ss.length p s = true → ∀ (j : Nat) (x : Sta), j < p + 1 → ss[j]? = some x → staOk ss.length j x = true) := by
            intro hg j x hj hx
            by_cases e : j = p
            · subst e
              rw [HX.out] at hx
              cases hx
              exact hg
            · exact HA.out j x (by omega) hx
          by_cases hp0 : p = 0
          · have HK : Hid (staOk ss.length p s = true) := by show staOk ss.length p s = true; rw [staOk, HO.out]; simp [hp0]
            have hp1 : ¬ ((p : Int) > 0) := by omega
            clear hp0
            go_wp2
            go_roundw
            case rel => exact ⟨p + 1, by omega, by go_num, HG.out HK.out, HBk.out⟩
            case measure => simp [intOf]; omega
          · have hp1 : (p : Int) > 0 := by omega
            have hp2 : 0 < p := by omega
            clear hp0
            cases hen : s.ends with
            | true =>
              have HK : Hid (staOk ss.length p s = true) := by show staOk ss.length p s = true; rw [staOk, HO.out]; simp [hen]
              go_wp2
              go_roundw
              case rel => exact ⟨p + 1, by omega, by go_num, HG.out HK.out, HBk.out⟩
              case measure => simp [intOf]; omega
            | false =>
              by_cases hl : s.es.length = 0
              · have HM : Hid (machT ss = false) := machT_bad HX.out (by rw [staOk_pos hp2, hen, List.isEmpty_iff_length_eq_zero.2 hl]; simp)
                have hli : (s.es.length : Int) = 0 := by omega
                go_wp2
                go_ret
                rw [HM.out]
                exact ⟨rfl, HBk.out⟩
              · have HK : Hid (staOk ss.length p s = true) := by
                  show staOk ss.length p s = true
                  rw [staOk_pos hp2, HO.out]
                  have : s.es.isEmpty = false := by cases hh : s.es with | nil => simp [hh] at hl | cons => rfl
                  simp [this]
                have hli : ¬ (s.es.length : Int) = 0 := by omega
                go_wp2
                go_roundw
                case rel => exact ⟨p + 1, by omega, by go_num, HG.out HK.out, HBk.out⟩
                case measure => simp [intOf]; omega
    · have HO : Hid (stasOk ss = true) := stasOk_true (fun i s hs => HA.out i s (by have := (List.getElem?_eq_some_iff.1 hs).1; omega) hs)
      cases hI : inT (ss.length : Int) 1 400 with
      | false =>
        have HM : Hid (machT ss = false) := machT_short (by simp [inT] at hI; omega)
        go_wp2_with (go_at_call 37; refine (l1In_is hI _).mono ?_; rintro e w' ⟨rfl, rfl⟩)
        go_ret
        rw [HM.out]
        exact ⟨rfl, HB.out⟩
      | true =>
        have h14 : 1 ≤ ss.length ∧ ss.length ≤ 400 := by simp [inT] at hI; omega
        obtain ⟨h1, h4⟩ := h14
        have HM : Hid (machT ss = decide (tab deepF deepZ ss ss.length 0 ≤ 12)) := machT_all h1 h4 HO.out
        go_wp2_with (first | (go_at_call 37; refine (l1In_is hI _).mono ?_; rintro e w' ⟨rfl, rfl⟩) | (go_at_call 49; refine (l3Deep_any _ _ ss (HS.out.below HB.out) HO.out h1 h4).mono ?_; rintro e w' ⟨rfl, hb'⟩; have HB' : Hid (Below w.heap.size w w') := HB.out.trans (hb'.mono HB.out.size); clear hb'))
        go_ret
        rw [HM.out]
        exact ⟨rfl, HB'.out⟩
end Go.Proofs.Ytbkjbkdmanaohaa
/-
  impl.counts.
-/
namespace Go.Proofs.Ytbkjbkdmanaohaa
open Go.RowKit
set_option linter.unusedVariables false
theorem run_mnc (ts : Array TypeId) (t : TypeId) (x y : Int) (w : World) : (Builtin.min_ ts t #[.int .i64 x, .int .i64 y]).run Try.prog w = .ok (.int .i64 (mnc x y)) w := run_min_int2 _ _ _ _ _ _ _
set_option maxHeartbeats 2000000 in
theorem counts_any (w : World) (v : Value) (ss : List Sta) (h : StatesAt w v ss) (hok : stasOk ss = true) (h1 : 1 ≤ ss.length) (h4 : ss.length ≤ 400) :
    Calls Try.prog 39 #[v] w fun e w' => e = .returned (.slice (some ⟨w.heap.size, 0, none⟩) ss.length ss.length) ∧ w'.rowIs w.heap.size 3 ss.length (tabRow (tab cntF cntZ ss ss.length)) ∧ Below w.heap.size w w' := by
  obtain ⟨a, cap, rfl, hc, hm⟩ := h.form
  have HS : Hid (StatesAt w (.slice a ss.length cap) ss) := h
  have HO : Hid (stasOk ss = true) := hok
  have HT := tab_cnt_bound ss
  have HT' : Hid (∀ (k j : Nat), 0 ≤ tab cntF cntZ ss k j ∧ tab cntF cntZ ss k j ≤ 1000000000) := HT
  clear h hok HT
  unfold maxLen at hm
  have hmk := run_make_row' (P := Try.prog) 58 3 (.int .i64 0) 8 Try.underlying58 Try.info_int64 rfl .i64 .i64 ss.length (by omega) (by omega)
  have HF : Hid ((w.alloc (.cells (madeCells #[.int .i64 0] ss.length) 3)).rowIs w.heap.size 3 ss.length (tabRow (tab cntF cntZ ss (ss.length - ss.length)))) := by
    have := World.rowIs_made w (.int .i64 0) ss.length 3
    exact this.congr (fun j _ => by simp [tabRow, tab])
  go_enter Try.func39, Try.ntmps39
  go_wp2
  go_loopw [4] (fun i wr => ∃ (q : Nat), q ≤ ss.length ∧ i = .int .i64 ((q : Int) - 1) ∧ wr.rowIs w.heap.size 3 ss.length (tabRow (tab cntF cntZ ss (ss.length - q))) ∧ Below w.heap.size w wr) (fun i _ => (intOf i + 1).toNat)
  case atStart => exact ⟨ss.length, Nat.le_refl _, rfl, HF.out, (Below.refl _ _).alloc (Nat.le_refl _) _⟩
  case round =>
    rename World => wo
    obtain ⟨q, hq, rfl, hrow, hb⟩ := hrel
    have HB : Hid (Below w.heap.size w wo) := hb
    have HW : Hid (wo.rowIs w.heap.size 3 ss.length (tabRow (tab cntF cntZ ss (ss.length - q)))) := hrow
    clear hb hrow
    cases q with
    | zero =>
      go_wp2
      go_ret
      exact ⟨rfl, HW.out, HB.out⟩
    | succ p =>
      rw [show ((p + 1 : Nat) : Int) - 1 = (p : Int) by omega]
      obtain ⟨b, off, cap', s, ev, hv, _, _, hbl0, hs, c10, c20, hev⟩ := HS.out.at (k := p) (by omega)
      cases hv
      obtain ⟨ea, ecap, rfl, hec, hem⟩ := hev.form
      have c2 := (HB.out.cell (p := ⟨b, off + p * 2 + 1, none⟩) hbl0).trans c20
      have c1 := (HB.out.cell (p := ⟨b, off + p * 2, none⟩) hbl0).trans c10
      have hbl : b < wo.heap.size := Nat.lt_of_lt_of_le hbl0 HB.out.size
      have HX : Hid (ss[p]? = some s) := hs
      have HE : Hid (EdgesIn 0 w (.slice ea s.es.length ecap) s.es) := hev
      have hpl : p < ss.length := by omega
      have HZ : Hid (tab cntF cntZ ss (ss.length - (p + 1)) p = 0) := tab_low cntF cntZ ss _ p (by omega) (by omega)
      have dz := HW.out.cell (i := p) (by omega)
      have gz := HW.out.frozen p
      have hgo := HW.out.lt
      unfold tabRow at dz
      have HTp : Hid (∀ j, 0 ≤ tab cntF cntZ ss (ss.length - (p + 1)) j ∧ tab cntF cntZ ss (ss.length - (p + 1)) j ≤ 1000000000) := fun j => by
        have := HT'.out (ss.length - (p + 1)) j
        omega
      clear hs hev c20
      unfold maxLen at hem
      cases hen : s.ends with
      | true =>
        go_wp2
        go_loopw [31] (fun i wr => ∃ (k : Nat), k ≤ s.es.length ∧ i = .int .i64 k ∧ wr.rowIs w.heap.size 3 ss.length (midRow (tab cntF cntZ ss (ss.length - (p + 1))) p (foldE cntF (tab cntF cntZ ss (ss.length - (p + 1))) (s.es.take k) (cntZ s.ends))) ∧ Below w.heap.size w wr) (fun i _ => s.es.length - (intOf i).toNat)
        case atStart => exact ⟨0, Nat.zero_le _, rfl, by rw [hen]; exact rowIs_mid (rowIs_start HW.out HZ.out), HB.out.setCell (Nat.le_refl _) _⟩
        case round =>
          obtain ⟨k, hk, rfl, hrow, hb⟩ := hrel
          have HBk : Hid (Below w.heap.size w wr) := hb
          have HWk : Hid (wr.rowIs w.heap.size 3 ss.length (midRow (tab cntF cntZ ss (ss.length - (p + 1))) p (foldE cntF (tab cntF cntZ ss (ss.length - (p + 1))) (s.es.take k) (cntZ s.ends)))) := hrow
          clear hb hrow c2
          by_cases hlt : k < s.es.length
          · obtain ⟨eb, eoff, ecap', e, hv, _, _, hebl, he, e1, e2⟩ := (HE.out.below HBk.out).at hlt
            cases hv
            obtain ⟨t, ht, hpt, htl⟩ := edge_to HO.out HX.out he
            have HS2 : Hid (foldE cntF (tab cntF cntZ ss (ss.length - (p + 1))) (s.es.take (k + 1)) (cntZ s.ends) = mnc (foldE cntF (tab cntF cntZ ss (ss.length - (p + 1))) (s.es.take k) (cntZ s.ends) + tab cntF cntZ ss (ss.length - (p + 1)) t) 1000000000) := by
              show _ = _
              rw [foldE_take _ _ _ _ he, mnc_cnt, ht]
              rfl
            obtain ⟨l, t'⟩ := e
            simp only at ht e1 e2
            subst ht
            have d1 := HWk.out.cell (i := p) (by omega)
            have d2 := HWk.out.cell (i := t) (by omega)
            rw [midRow_at] at d1
            rw [midRow_to _ _ _ (by omega)] at d2
            have g1 := HWk.out.frozen p
            have hg := HWk.out.lt
            have hD := HTp.out t
            have hacc := foldE_cnt_take HTp.out (s.es.take k) s.ends
            generalize foldE cntF (tab cntF cntZ ss (ss.length - (p + 1))) (s.es.take k) (cntZ s.ends) = acc at *
            generalize hdd : tab cntF cntZ ss (ss.length - (p + 1)) t = dt at *
            have hmx := fun ts t' x y w => run_mnc ts t' x y w
            clear he hdd
            go_wp2
            go_region
            all_goals
              go_wp2
              go_roundw
              case rel => exact ⟨k + 1, by omega, by go_num, by rw [HS2.out]; exact ((rowIs_mid HWk.out).alloc _).drew, ((HBk.out.setCell (Nat.le_refl _) _).alloc (by rw [Go.Deep.nblk_setCell]; exact HBk.out.size) _).drew⟩
              case measure => simp [intOf]; omega
          · have hke : s.es.take k = s.es := List.take_of_length_le (by omega)
            rw [hke] at HWk
            have HN : Hid (wr.rowIs w.heap.size 3 ss.length (tabRow (tab cntF cntZ ss (ss.length - p)))) := rowIs_next HX.out HWk.out rfl
            clear hke
            go_wp2
            go_roundw
            case rel => exact ⟨p, by omega, rfl, HN.out, HBk.out⟩
            case measure => simp [intOf]
      | false =>
        go_wp2
        go_loopw [31] (fun i wr => ∃ (k : Nat), k ≤ s.es.length ∧ i = .int .i64 k ∧ wr.rowIs w.heap.size 3 ss.length (midRow (tab cntF cntZ ss (ss.length - (p + 1))) p (foldE cntF (tab cntF cntZ ss (ss.length - (p + 1))) (s.es.take k) (cntZ s.ends))) ∧ Below w.heap.size w wr) (fun i _ => s.es.length - (intOf i).toNat)
        case atStart => exact ⟨0, Nat.zero_le _, rfl, by rw [hen]; exact rowIs_start HW.out HZ.out, HB.out⟩
        case round =>
          obtain ⟨k, hk, rfl, hrow, hb⟩ := hrel
          have HBk : Hid (Below w.heap.size w wr) := hb
          have HWk : Hid (wr.rowIs w.heap.size 3 ss.length (midRow (tab cntF cntZ ss (ss.length - (p + 1))) p (foldE cntF (tab cntF cntZ ss (ss.length - (p + 1))) (s.es.take k) (cntZ s.ends)))) := hrow
          clear hb hrow c2
          by_cases hlt : k < s.es.length
          · obtain ⟨eb, eoff, ecap', e, hv, _, _, hebl, he, e1, e2⟩ := (HE.out.below HBk.out).at hlt
            cases hv
            obtain ⟨t, ht, hpt, htl⟩ := edge_to HO.out HX.out he
            have HS2 : Hid (foldE cntF (tab cntF cntZ ss (ss.length - (p + 1))) (s.es.take (k + 1)) (cntZ s.ends) = mnc (foldE cntF (tab cntF cntZ ss (ss.length - (p + 1))) (s.es.take k) (cntZ s.ends) + tab cntF cntZ ss (ss.length - (p + 1)) t) 1000000000) := by
              show _ = _
              rw [foldE_take _ _ _ _ he, mnc_cnt, ht]
              rfl
            obtain ⟨l, t'⟩ := e
            simp only at ht e1 e2
            subst ht
            have d1 := HWk.out.cell (i := p) (by omega)
            have d2 := HWk.out.cell (i := t) (by omega)
            rw [midRow_at] at d1
            rw [midRow_to _ _ _ (by omega)] at d2
            have g1 := HWk.out.frozen p
            have hg := HWk.out.lt
            have hD := HTp.out t
            have hacc := foldE_cnt_take HTp.out (s.es.take k) s.ends
            generalize foldE cntF (tab cntF cntZ ss (ss.length - (p + 1))) (s.es.take k) (cntZ s.ends) = acc at *
            generalize hdd : tab cntF cntZ ss (ss.length - (p + 1)) t = dt at *
            have hmx := fun ts t' x y w => run_mnc ts t' x y w
            clear he hdd
            go_wp2
            go_region
            all_goals
              go_wp2
              go_roundw
              case rel => exact ⟨k + 1, by omega, by go_num, by rw [HS2.out]; exact ((rowIs_mid HWk.out).alloc _).drew, ((HBk.out.setCell (Nat.le_refl _) _).alloc (by rw [Go.Deep.nblk_setCell]; exact HBk.out.size) _).drew⟩
              case measure => simp [intOf]; omega
          · have hke : s.es.take k = s.es := List.take_of_length_le (by omega)
            rw [hke] at HWk
            have HN : Hid (wr.rowIs w.heap.size 3 ss.length (tabRow (tab cntF cntZ ss (ss.length - p)))) := rowIs_next HX.out HWk.out rfl
            clear hke
            go_wp2
            go_roundw
            case rel => exact ⟨p, by omega, rfl, HN.out, HBk.out⟩
            case measure => simp [intOf]
end Go.Proofs.Ytbkjbkdmanaohaa
/-
  (impl.State).to, impl.walk and its closure.
-/
namespace Go.Proofs.Ytbkjbkdmanaohaa
open Go.RowKit
set_option linter.unusedVariables false
set_option maxHeartbeats 1000000 in
theorem to_any (w : World) (b : Bool) (v : Value) (es : List (Int × Int)) (c : Nat) (first last : Int) (h : EdgesIn 0 w v es) (hok : edsOk first last es = true) (hc8 : c ≤ 255) :
    Calls Try.prog 71 #[.agg #[.bool b, v], .int .u8 c] w fun e w' => e = .returned (.int .i64 (lastT es c)) ∧ Below w.heap.size w w' := by
  obtain ⟨a, cap, rfl, hc, hm⟩ := h.form
  have HS : Hid (EdgesIn 0 w (.slice a es.length cap) es) := h
  have HO : Hid (edsOk first last es = true) := hok
  clear h hok
  unfold maxLen at hm
  go_enter Try.func71, Try.ntmps71
  go_wp2
  go_loopw [10] (fun i wr => ∃ (k : Nat), k ≤ es.length ∧ i = .int .i64 k ∧ lastT (es.take k) c = -1 ∧ Below w.heap.size w wr) (fun i _ => es.length - (intOf i).toNat)
  case atStart => exact ⟨0, Nat.zero_le _, rfl, rfl, (Below.refl _ _).alloc (Nat.le_refl _) _⟩
  case round =>
    obtain ⟨k, hk, rfl, hl, hb⟩ := hrel
    have HL : Hid (lastT (es.take k) c = -1) := hl
    have HB : Hid (Below w.heap.size w wr) := hb
    clear hl hb
    by_cases hlt : k < es.length
    · obtain ⟨b', off, cap', e, hv, _, _, hbl, he, c1, c2⟩ := (HS.out.below HB.out).at hlt
      cases hv
      have HX : Hid (es[k]? = some e) := he
      obtain ⟨l, t⟩ := e
      simp only at c1 c2
      clear he
      by_cases hlc : l = (c : Int)
      · have HR : Hid (lastT es c = t) := lastT_found HO.out HX.out hlc
        subst hlc
        go_wp2
        go_ret
        rw [HR.out]
        exact ⟨rfl, HB.out.alloc HB.out.size _⟩
      · have HR : Hid (lastT (es.take (k + 1)) c = -1) := by show lastT (es.take (k + 1)) c = -1; rw [lastT_take HX.out, if_neg hlc]; exact HL.out
        go_wp2
        go_roundw
        case rel => exact ⟨k + 1, by omega, by go_num, HR.out, HB.out.alloc HB.out.size _⟩
        case measure => simp [intOf]; omega
    · have HR : Hid (lastT es c = -1) := by show lastT es c = -1; rw [← HL.out, List.take_of_length_le (by omega)]
      go_wp2
      go_ret
      rw [HR.out]
      exact ⟨rfl, HB.out⟩
set_option maxHeartbeats 1000000 in
theorem walk1_any (w : World) (P Q : Nat) (v : Value) (ss : List Sta) (a : Int) (c : Nat) (h : StatesAt w v ss) (hok : stasOk ss = true) (hm : w.cell? ⟨Q, 0, none⟩ = some v)
    (ha : w.cell? ⟨P, 0, none⟩ = some (.int .i64 a)) (hf : w.frozen? ⟨P, 0, none⟩ = false) (hp : placeOk ss a) (hP : P < w.heap.size) (hc8 : c ≤ 255) :
    Calls Try.prog 70 #[.int .u8 c, .pointer (some ⟨P, 0, none⟩), .pointer (some ⟨Q, 0, none⟩)] w fun e w' =>
      e = .returned (.int .i64 (goT ss a c)) ∧ w'.cell? ⟨P, 0, none⟩ = some (.int .i64 (goT ss a c)) ∧ w'.frozen? ⟨P, 0, none⟩ = false ∧ Below P w w' := by
  obtain ⟨sa, cap, rfl, hc, hmx⟩ := h.form
  have HS : Hid (StatesAt w (.slice sa ss.length cap) ss) := h
  have HO : Hid (stasOk ss = true) := hok
  clear h hok
  unfold maxLen at hmx
  rcases hp with rfl | ⟨p, rfl, hpl⟩
  · have HG : Hid (goT ss (-1) c = -1) := goT_neg ss (by omega) _
    go_enter Try.func70, Try.ntmps70
    go_wp2
    go_ret
    rw [HG.out]
    exact ⟨rfl, ha, hf, Below.refl _ _⟩
  · obtain ⟨b', off, cap', s, ev, hv, _, _, hbl, hs, c1, c2, hev⟩ := HS.out.at hpl
    cases hv
    have HG : Hid (goT ss p c = lastT s.es c) := goT_at hs _
    have HE : Hid (EdgesIn 0 w ev s.es) := hev
    have HD : Hid (edsOk (p + 1) ss.length s.es = true) := staOk_es (stasOk_at HO.out hs)
    have hp0 : (p : Int) ≥ 0 := by omega
    clear hs hev
    go_enter Try.func70, Try.ntmps70
    go_wp2_with fail
    refine (to_any _ _ _ s.es c _ _ HE.out HD.out hc8).mono ?_
    rintro e w' ⟨rfl, hb'⟩
    have HB : Hid (Below P w w') := hb'.mono (by omega)
    have ha' : w'.cell? ⟨P, 0, none⟩ = some (.int .i64 p) := (hb'.cell (p := ⟨P, 0, none⟩) hP).trans ha
    have hf' : w'.frozen? ⟨P, 0, none⟩ = false := (hb'.frozen (p := ⟨P, 0, none⟩) hP).trans hf
    clear hb' ha hf c1 c2 hm
    go_wp2
    go_ret
    rw [HG.out]
    refine ⟨rfl, ?_, ?_, HB.out.setCell (Nat.le_refl _) _⟩
    · exact World.cell?_setCell_same' _ _ _ (by rw [ha']; rfl)
    · rw [World.frozen?_setCell]; exact hf'
end Go.Proofs.Ytbkjbkdmanaohaa
