/-
  impl.longestKnown.
-/
import Derived.Test.YtpjkgpglbbppjaaW45
import Derived.Test.YtpjkgpglbbppjaaM21
namespace Go.Proofs.Ytpjkgpglbbppjaa
open Go.RowKit
set_option linter.unusedVariables false
theorem rowIs_mid {w : World} {g : Nat} {t : TypeId} {n : Nat} {D : Nat → Int} {p : Nat} {acc x : Int} (h : w.rowIs g t n (midRow D p acc)) : (w.setCell ⟨g, p, none⟩ (.int .i64 x)).rowIs g t n (midRow D p x) :=
  (h.set p (.int .i64 x)).congr (fun j _ => by
    unfold midRow
    by_cases e : j = p
    · simp [e]
    · simp [e])
theorem rowIs_start {w : World} {g : Nat} {t : TypeId} {n : Nat} {D : Nat → Int} {p : Nat} {acc : Int} (h : w.rowIs g t n (tabRow D)) (h0 : D p = acc) : w.rowIs g t n (midRow D p acc) :=
  h.congr (fun j _ => by
    unfold midRow tabRow
    by_cases e : j = p
    · simp [e, h0]
    · simp [e])
theorem rowIs_next {w : World} {g : Nat} {t : TypeId} {ss : List Sta} {f : Int → Int → Int} {z : Bool → Int} {p : Nat} {s : Sta} (hs : ss[p]? = some s) {acc : Int} (h : w.rowIs g t ss.length (midRow (tab f z ss (ss.length - (p + 1))) p acc))
    (ha : acc = foldE f (tab f z ss (ss.length - (p + 1))) s.es (z s.ends)) : w.rowIs g t ss.length (tabRow (tab f z ss (ss.length - p))) :=
  h.congr (fun j _ => by
    unfold midRow tabRow
    rw [tab_next f z ss p s hs j]
    by_cases e : j = p
    · simp [e, ha]
    · simp [e])
theorem Try.info_int64 : (Try.prog.info? 3).map (fun i => (i.zero, i.size, i.bytes)) = some (some (.int .i64 0), 1, 8) := by kernel_rfl
theorem run_mx2 (ts : Array TypeId) (t : TypeId) (x y : Int) (w : World) : (Builtin.max_ ts t #[.int .i64 x, .int .i64 y]).run Try.prog w = .ok (.int .i64 (mx x y)) w := run_max_int2 _ _ _ _ _ _ _
set_option maxHeartbeats 2000000 in
theorem longestKnown_any (w : World) (v : Value) (ss : List Sta) (h : StatesAt w v ss) (hok : stasOk ss = true) (h1 : 1 ≤ ss.length) (h4 : ss.length ≤ 400) :
    Calls Try.prog 32 #[v] w fun e w' => e = .returned (.int .i64 (tab deepF deepZ ss ss.length 0)) ∧ Below w.heap.size w w' := by
  obtain ⟨a, cap, rfl, hc, hm⟩ := h.form
  have HS : Hid (StatesAt w (.slice a ss.length cap) ss) := h
  have HO : Hid (stasOk ss = true) := hok
  have HT := tab_deep_bound ss
  have HT' : Hid (∀ (k j : Nat), 0 ≤ tab deepF deepZ ss k j ∧ tab deepF deepZ ss k j ≤ k) := HT
  clear h hok HT
  unfold maxLen at hm
  have hmk := run_make_row' (P := Try.prog) 66 3 (.int .i64 0) 8 Try.underlying66 Try.info_int64 rfl .i64 .i64 ss.length (by omega) (by omega)
  have HF : Hid ((w.alloc (.cells (madeCells #[.int .i64 0] ss.length) 3)).rowIs w.heap.size 3 ss.length (tabRow (tab deepF deepZ ss (ss.length - ss.length)))) := by
    have := World.rowIs_made w (.int .i64 0) ss.length 3
    exact this.congr (fun j _ => by simp [tabRow, tab])
  go_enter Try.func32, Try.ntmps32
  go_wp2
  go_loopw [4] (fun i wr => ∃ (q : Nat), q ≤ ss.length ∧ i = .int .i64 ((q : Int) - 1) ∧ wr.rowIs w.heap.size 3 ss.length (tabRow (tab deepF deepZ ss (ss.length - q))) ∧ Below w.heap.size w wr) (fun i _ => (intOf i + 1).toNat)
  case atStart => exact ⟨ss.length, Nat.le_refl _, rfl, HF.out, (Below.refl _ _).alloc (Nat.le_refl _) _⟩
  case round =>
    rename World => wo
    obtain ⟨q, hq, rfl, hrow, hb⟩ := hrel
    have HB : Hid (Below w.heap.size w wo) := hb
    have HW : Hid (wo.rowIs w.heap.size 3 ss.length (tabRow (tab deepF deepZ ss (ss.length - q)))) := hrow
    clear hb hrow
    cases q with
    | zero =>
      have d0 : wo.cell? ⟨w.heap.size, 0, none⟩ = some (.int .i64 (tab deepF deepZ ss ss.length 0)) := HW.out.cell (i := 0) (by omega)
      go_wp2
      go_ret
      exact ⟨rfl, HB.out⟩
    | succ p =>
      rw [show ((p + 1 : Nat) : Int) - 1 = (p : Int) by omega]
      obtain ⟨b, off, cap', s, ev, hv, _, _, hbl0, hs, _, c20, hev⟩ := HS.out.at (k := p) (by omega)
      cases hv
      obtain ⟨ea, ecap, rfl, hec, hem⟩ := hev.form
      have c2 := (HB.out.cell (p := ⟨b, off + p * 2 + 1, none⟩) hbl0).trans c20
      have hbl : b < wo.heap.size := Nat.lt_of_lt_of_le hbl0 HB.out.size
      have HX : Hid (ss[p]? = some s) := hs
      have HE : Hid (EdgesIn 0 w (.slice ea s.es.length ecap) s.es) := hev
      have hpl : p < ss.length := by omega
      have HZ : Hid (tab deepF deepZ ss (ss.length - (p + 1)) p = foldE deepF (tab deepF deepZ ss (ss.length - (p + 1))) (s.es.take 0) 0) := by
        show _ = _
        rw [tab_low deepF deepZ ss _ p (by omega) (by omega)]
        rfl
      have HTp : Hid (∀ j, 0 ≤ tab deepF deepZ ss (ss.length - (p + 1)) j ∧ tab deepF deepZ ss (ss.length - (p + 1)) j ≤ 400) := fun j => by
        have := HT'.out (ss.length - (p + 1)) j
        omega
      clear hs hev c20
      unfold maxLen at hem
      go_wp2
      go_loopw [23] (fun i wr => ∃ (k : Nat), k ≤ s.es.length ∧ i = .int .i64 k ∧ wr.rowIs w.heap.size 3 ss.length (midRow (tab deepF deepZ ss (ss.length - (p + 1))) p (foldE deepF (tab deepF deepZ ss (ss.length - (p + 1))) (s.es.take k) 0)) ∧ Below w.heap.size w wr) (fun i _ => s.es.length - (intOf i).toNat)
      case atStart => exact ⟨0, Nat.zero_le _, rfl, rowIs_start HW.out HZ.out, HB.out⟩
      case round =>
        obtain ⟨k, hk, rfl, hrow, hb⟩ := hrel
        have HBk : Hid (Below w.heap.size w wr) := hb
        have HWk : Hid (wr.rowIs w.heap.size 3 ss.length (midRow (tab deepF deepZ ss (ss.length - (p + 1))) p (foldE deepF (tab deepF deepZ ss (ss.length - (p + 1))) (s.es.take k) 0))) := hrow
        clear hb hrow c2
        by_cases hlt : k < s.es.length
        · obtain ⟨eb, eoff, ecap', e, hv, _, _, hebl, he, e1, e2⟩ := (HE.out.below HBk.out).at hlt
          cases hv
          obtain ⟨t, ht, hpt, htl⟩ := edge_to HO.out HX.out he
          have HS2 : Hid (foldE deepF (tab deepF deepZ ss (ss.length - (p + 1))) (s.es.take (k + 1)) 0 = mx (foldE deepF (tab deepF deepZ ss (ss.length - (p + 1))) (s.es.take k) 0) (tab deepF deepZ ss (ss.length - (p + 1)) t + 1)) := by
            show _ = _
            rw [foldE_take _ _ _ _ he, mx_deep, ht]
            rfl
          obtain ⟨l, t'⟩ := e
          simp only at ht e1 e2
          subst ht
          have d1 := HWk.out.cell (i := p) (by omega)
          have d2 := HWk.out.cell (i := t) (by omega)
          rw [midRow_at] at d1
          rw [midRow_to _ _ _ (by omega)] at d2
          have g1 := HWk.out.frozen p
          have hg := HWk.out.lt
          have hD := HTp.out t
          generalize foldE deepF (tab deepF deepZ ss (ss.length - (p + 1))) (s.es.take k) 0 = acc at *
          generalize hdd : tab deepF deepZ ss (ss.length - (p + 1)) t = dt at *
          have hmx := fun ts t' x y w => run_mx2 ts t' x y w
          clear he hdd
          go_wp2
          go_region
          all_goals
            go_wp2
            go_roundw
            case rel => exact ⟨k + 1, by omega, by go_num, by rw [HS2.out]; exact ((rowIs_mid HWk.out).alloc _).drew, ((HBk.out.setCell (Nat.le_refl _) _).alloc (by rw [Go.Deep.nblk_setCell]; exact HBk.out.size) _).drew⟩
            case measure => simp [intOf]; omega
        · have hke : s.es.take k = s.es := List.take_of_length_le (by omega)
          rw [hke] at HWk
          have HN : Hid (wr.rowIs w.heap.size 3 ss.length (tabRow (tab deepF deepZ ss (ss.length - p)))) := rowIs_next HX.out HWk.out rfl
          clear hke
          go_wp2
          go_roundw
          case rel => exact ⟨p, by omega, rfl, HN.out, HBk.out⟩
          case measure => simp [intOf]
end Go.Proofs.Ytpjkgpglbbppjaa
