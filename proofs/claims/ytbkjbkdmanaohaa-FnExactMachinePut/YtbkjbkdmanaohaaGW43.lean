/-
  States and edges in memory.
-/
import Derived.Test.YtbkjbkdmanaohaaProg
import Derived.Test.YtbkjbkdmanaohaaGM47
import Derived.WalkKit
import Derived.WalkSpells
import Derived.WalkLawsBesides
import Derived.Lib.SmallJoins
import Derived.Deep.WholeRow
import Derived.Deep.RegionHeld3
import Derived.Deep.OwnRows
import Derived.Deep.SlicePairs
namespace Go.Proofs.Ytbkjbkdmanaohaa
open Go.RowKit
set_option linter.unusedVariables false
/-- A slice of edges, from block lo on. -/
def EdgesIn (lo : Nat) (w : World) (v : Value) (es : List (Int × Int)) : Prop :=
  ∃ a cap, v = .slice a es.length cap ∧ es.length ≤ cap ∧ cap ≤ maxLen ∧
    (es ≠ [] → ∃ b off, a = some ⟨b, off, none⟩ ∧ lo ≤ b ∧ b < w.heap.size ∧ ∀ i e, es[i]? = some e → w.cell? ⟨b, off + i * 2, none⟩ = some (.int .i64 e.1) ∧ w.cell? ⟨b, off + i * 2 + 1, none⟩ = some (.int .i64 e.2))
/-- A slice of states. -/
def StatesAt (w : World) (v : Value) (ss : List Sta) : Prop :=
  ∃ a cap, v = .slice a ss.length cap ∧ ss.length ≤ cap ∧ cap ≤ maxLen ∧
    (ss ≠ [] → ∃ b off, a = some ⟨b, off, none⟩ ∧ b < w.heap.size ∧ ∀ i s, ss[i]? = some s → w.cell? ⟨b, off + i * 2, none⟩ = some (.bool s.ends) ∧ ∃ ev, w.cell? ⟨b, off + i * 2 + 1, none⟩ = some ev ∧ EdgesIn 0 w ev s.es)
theorem EdgesIn.lower {lo lo' : Nat} {w : World} {v : Value} {es : List (Int × Int)} (h : EdgesIn lo w v es) (hl : lo' ≤ lo) : EdgesIn lo' w v es := by
  obtain ⟨a, cap, hv, hc, hm, hh⟩ := h
  exact ⟨a, cap, hv, hc, hm, fun hn => let ⟨b, off, ha, h1, h2, h3⟩ := hh hn; ⟨b, off, ha, by omega, h2, h3⟩⟩
theorem EdgesIn.below {lo : Nat} {w w' : World} {v : Value} {es : List (Int × Int)} (h : EdgesIn lo w v es) (hb : Below w.heap.size w w') : EdgesIn lo w' v es := by
  obtain ⟨a, cap, hv, hc, hm, hh⟩ := h
  refine ⟨a, cap, hv, hc, hm, fun hn => ?_⟩
  obtain ⟨b, off, ha, h1, h2, h3⟩ := hh hn
  refine ⟨b, off, ha, h1, Nat.lt_of_lt_of_le h2 hb.size, fun i e he => ?_⟩
  obtain ⟨c1, c2⟩ := h3 i e he
  exact ⟨(hb.cell (p := ⟨b, off + i * 2, none⟩) h2).trans c1, (hb.cell (p := ⟨b, off + i * 2 + 1, none⟩) h2).trans c2⟩
/-- A store into a block ahead of lo. -/
theorem EdgesIn.set {lo : Nat} {w : World} {v : Value} {es : List (Int × Int)} (h : EdgesIn lo w v es) {p : Addr} (hp : p.block < lo) (u : Value) : EdgesIn lo (w.setCell p u) v es := by
  obtain ⟨a, cap, hv, hc, hm, hh⟩ := h
  refine ⟨a, cap, hv, hc, hm, fun hn => ?_⟩
  obtain ⟨b, off, ha, h1, h2, h3⟩ := hh hn
  refine ⟨b, off, ha, h1, by simpa [World.setCell] using h2, fun i e he => ?_⟩
  have hne : b ≠ p.block := by omega
  have e1 := Below.heap_setCell w p u b hne
  obtain ⟨c1, c2⟩ := h3 i e he
  exact ⟨(World.cell?_of_block (w := w) (a := ⟨b, off + i * 2, none⟩) e1).trans c1, (World.cell?_of_block (w := w) (a := ⟨b, off + i * 2 + 1, none⟩) e1).trans c2⟩
theorem StatesAt.below {w w' : World} {v : Value} {ss : List Sta} (h : StatesAt w v ss) (hb : Below w.heap.size w w') : StatesAt w' v ss := by
  obtain ⟨a, cap, hv, hc, hm, hh⟩ := h
  refine ⟨a, cap, hv, hc, hm, fun hn => ?_⟩
  obtain ⟨b, off, ha, h2, h3⟩ := hh hn
  refine ⟨b, off, ha, Nat.lt_of_lt_of_le h2 hb.size, fun i e he => ?_⟩
  obtain ⟨c1, ev, c2, hev⟩ := h3 i e he
  exact ⟨(hb.cell (p := ⟨b, off + i * 2, none⟩) h2).trans c1, ev, (hb.cell (p := ⟨b, off + i * 2 + 1, none⟩) h2).trans c2, hev.below hb⟩
theorem ne_nil_of_at {α : Type} {l : List α} {i : Nat} {x : α} (h : l[i]? = some x) : l ≠ [] := by rintro rfl; simp at h
/-- The edge at a place, opened. -/
theorem EdgesIn.at {lo : Nat} {w : World} {v : Value} {es : List (Int × Int)} (h : EdgesIn lo w v es) {k : Nat} (hk : k < es.length) :
    ∃ b off cap e, v = .slice (some ⟨b, off, none⟩) es.length cap ∧ es.length ≤ cap ∧ cap ≤ maxLen ∧ b < w.heap.size ∧ es[k]? = some e ∧ w.cell? ⟨b, off + k * 2, none⟩ = some (.int .i64 e.1) ∧ w.cell? ⟨b, off + k * 2 + 1, none⟩ = some (.int .i64 e.2) := by
  obtain ⟨a, cap, hv, hc, hm, hh⟩ := h
  have he := List.getElem?_eq_getElem hk
  obtain ⟨b, off, rfl, h1, h2, h3⟩ := hh (ne_nil_of_at he)
  exact ⟨b, off, cap, _, hv, hc, hm, h2, he, h3 k _ he⟩
/-- The state at a place, opened. -/
theorem StatesAt.at {w : World} {v : Value} {ss : List Sta} (h : StatesAt w v ss) {k : Nat} (hk : k < ss.length) :
    ∃ b off cap s ev, v = .slice (some ⟨b, off, none⟩) ss.length cap ∧ ss.length ≤ cap ∧ cap ≤ maxLen ∧ b < w.heap.size ∧ ss[k]? = some s ∧ w.cell? ⟨b, off + k * 2, none⟩ = some (.bool s.ends) ∧ w.cell? ⟨b, off + k * 2 + 1, none⟩ = some ev ∧ EdgesIn 0 w ev s.es := by
  obtain ⟨a, cap, hv, hc, hm, hh⟩ := h
  have he := List.getElem?_eq_getElem hk
  obtain ⟨b, off, rfl, h2, h3⟩ := hh (ne_nil_of_at he)
  obtain ⟨c1, ev, c2, hev⟩ := h3 k _ he
  exact ⟨b, off, cap, _, ev, hv, hc, hm, h2, he, c1, c2, hev⟩
theorem EdgesIn.form {lo : Nat} {w : World} {v : Value} {es : List (Int × Int)} (h : EdgesIn lo w v es) : ∃ a cap, v = .slice a es.length cap ∧ es.length ≤ cap ∧ cap ≤ maxLen := by
  obtain ⟨a, cap, hv, hc, hm, hh⟩ := h
  exact ⟨a, cap, hv, hc, hm⟩
theorem StatesAt.form {w : World} {v : Value} {ss : List Sta} (h : StatesAt w v ss) : ∃ a cap, v = .slice a ss.length cap ∧ ss.length ≤ cap ∧ cap ≤ maxLen := by
  obtain ⟨a, cap, hv, hc, hm, hh⟩ := h
  exact ⟨a, cap, hv, hc, hm⟩
end Go.Proofs.Ytbkjbkdmanaohaa
/-
  States handed over: szEdgeS, szState, szStateS, toEdge.
-/
namespace Go.Proofs.Ytbkjbkdmanaohaa
open Go.RowKit
set_option linter.unusedVariables false
set_option maxHeartbeats 1000000 in
theorem szEdgeS_any (w : World) (v : Value) (es : List (Int × Int)) (left : Int) (h : EdgesIn 0 w v es) (h0 : 0 ≤ left) (h1 : left ≤ 1048576) :
    Calls Try.prog 48 #[v, .int .i64 left] w fun e w' => (∃ r : Int, e = .returned (.int .i64 r) ∧ r ≤ left ∧ (0 ≤ r → es.length ≤ 1048576)) ∧ w' = w := by
  obtain ⟨a, cap, rfl, hc, hm⟩ := h.form
  clear h
  unfold maxLen at hm
  by_cases hl : left - es.length < 0
  · go_enter Try.func48, Try.ntmps48
    go_wp2
    go_ret
    exact ⟨⟨-1, rfl, by omega, by omega⟩, rfl⟩
  · go_enter Try.func48, Try.ntmps48
    go_wp2
    go_ret
    exact ⟨⟨_, rfl, by omega, by omega⟩, rfl⟩
set_option maxHeartbeats 1000000 in
theorem szState_any (w : World) (b : Bool) (v : Value) (es : List (Int × Int)) (left : Int) (h : EdgesIn 0 w v es) (h0 : 0 ≤ left) (h1 : left ≤ 1048576) :
    Calls Try.prog 25 #[.agg #[.bool b, v], .int .i64 left] w fun e w' => (∃ r : Int, e = .returned (.int .i64 r) ∧ r ≤ left ∧ (0 ≤ r → es.length ≤ 1048576)) ∧ Below w.heap.size w w' := by
  obtain ⟨a, cap, rfl, hc, hm⟩ := h.form
  have HE : Hid (EdgesIn 0 w (.slice a es.length cap) es) := h
  clear h
  go_enter Try.func25, Try.ntmps25
  go_wp2_with fail
  refine (szEdgeS_any _ _ es _ (HE.out.below ((Below.refl _ _).alloc (Nat.le_refl _) _)) (by omega) (by omega)).mono ?_
  rintro e w' ⟨⟨r, rfl, hr1, hr2⟩, rfl⟩
  have HR : Hid (0 ≤ r → es.length ≤ 1048576) := hr2
  clear hr2
  by_cases hr : r < 0
  · go_wp2
    go_ret
    exact ⟨⟨-1, rfl, by omega, by omega⟩, (Below.refl _ _).alloc (Nat.le_refl _) _⟩
  · go_wp2
    go_ret
    exact ⟨⟨r, rfl, by omega, HR.out⟩, (Below.refl _ _).alloc (Nat.le_refl _) _⟩
set_option maxHeartbeats 1000000 in
theorem szStateS_any (w : World) (v : Value) (ss : List Sta) (left : Int) (h : StatesAt w v ss) (h0 : 0 ≤ left) (h1 : left ≤ 1048576) :
    Calls Try.prog 8 #[v, .int .i64 left] w fun e w' => (∃ r : Int, e = .returned (.int .i64 r) ∧ (0 ≤ r → SmallS ss)) ∧ Below w.heap.size w w' := by
  obtain ⟨a, cap, rfl, hc, hm⟩ := h.form
  have HS : Hid (StatesAt w (.slice a ss.length cap) ss) := h
  clear h
  unfold maxLen at hm
  by_cases hl : left - ss.length < 0
  · go_enter Try.func8, Try.ntmps8
    go_wp2
    go_ret
    exact ⟨⟨-1, rfl, by omega⟩, Below.refl _ _⟩
  · go_enter Try.func8, Try.ntmps8
    go_wp2
    go_loopw [1, 5] (fun l i wr => ∃ (k : Nat) (r : Int), k ≤ ss.length ∧ i = .int .i64 k ∧ l = .int .i64 r ∧ 0 ≤ r ∧ r ≤ 1048576 ∧ (∀ (j : Nat) (s : Sta), j < k → ss[j]? = some s → s.es.length ≤ 1048576) ∧ Below w.heap.size w wr) (fun _ i _ => ss.length - (intOf i).toNat)
    case atStart => exact ⟨0, _, Nat.zero_le _, rfl, rfl, by omega, by omega, fun j s hj => absurd hj (by omega), Below.refl _ _⟩
    case round =>
      obtain ⟨k, r, hk, rfl, rfl, hr0, hr1, hall, hb⟩ := hrel
      have HA : Hid (∀ (j : Nat) (s : Sta), j < k → ss[j]? = some s → s.es.length ≤ 1048576) := hall
      have HB : Hid (Below w.heap.size w wr) := hb
      clear hall hb
      by_cases hlt : k < ss.length
      · obtain ⟨b, off, cap', s, ev, hv, _, _, hbl, hs, c1, c2, hev⟩ := (HS.out.below HB.out).at hlt
        cases hv
        have HX : Hid (ss[k]? = some s) := hs
        have HE : Hid (EdgesIn 0 wr ev s.es) := hev
        clear hs hev
        go_wp2_with fail
        refine (szState_any _ _ _ s.es _ HE.out (by omega) (by omega)).mono ?_
        rintro e w' ⟨⟨r', rfl, hr1', hr2⟩, hb'⟩
        have HR : Hid (0 ≤ r' → s.es.length ≤ 1048576) := hr2
        have HB' : Hid (Below w.heap.size w w') := HB.out.trans (hb'.mono HB.out.size)
        clear hr2 hb' c1 c2
        by_cases hr : r' < 0
        · go_wp2
          go_ret
          exact ⟨⟨-1, rfl, by omega⟩, HB'.out⟩
        · go_wp2
          go_roundw
          case rel =>
            refine ⟨k + 1, r', by omega, by go_num, rfl, by omega, by omega, fun j x hj hx => ?_, HB'.out⟩
            by_cases e : j = k
            · subst e
              rw [HX.out] at hx
              cases hx
              exact HR.out (by omega)
            · exact HA.out j x (by omega) hx
          case measure => simp [intOf]; omega
      · go_wp2
        go_ret
        exact ⟨⟨r, rfl, fun _ => ⟨by omega, fun i s hs => HA.out i s (by have := (List.getElem?_eq_some_iff.1 hs).1; omega) hs⟩⟩, HB.out⟩
set_option maxHeartbeats 1000000 in
theorem toEdge_any (x y : Int) (w : World) :
    Calls Try.prog 62 #[.agg #[.int .i64 x, .int .i64 y]] w fun e w' => e = .returned (.agg #[.int .i64 x, .int .i64 y]) ∧ Below w.heap.size w w' := by
  go_enter Try.func62, Try.ntmps62
  go_wp2
  refine bodyPost_ret (v := .agg #[.int .i64 x, .int .i64 y]) (by simp [results, Try.results62, go_sem]) rfl ⟨rfl, ?_⟩
  exact (((Below.refl _ _).alloc (Nat.le_refl _) _).alloc (by simp) _).alloc (by simp <;> omega) _
end Go.Proofs.Ytbkjbkdmanaohaa
/-
  States handed over: toEdgeS, toState, toStateS.
-/
namespace Go.Proofs.Ytbkjbkdmanaohaa
open Go.RowKit
set_option linter.unusedVariables false
theorem bcell2 {W w1 : World} (hb : Below W.heap.size W w1) : (∀ b o, b < W.heap.size → w1.cell? ⟨b, o, none⟩ = W.cell? ⟨b, o, none⟩) ∧ (∀ b o, b < W.heap.size → w1.frozen? ⟨b, o, none⟩ = W.frozen? ⟨b, o, none⟩) :=
  ⟨fun b o h => hb.cell (p := ⟨b, o, none⟩) h, fun b o h => hb.frozen (p := ⟨b, o, none⟩) h⟩
theorem rowIs_below {w w' : World} {b : Nat} {t : TypeId} {n : Nat} {f : Nat → Value} (h : w.rowIs b t n f) (hb : Below w.heap.size w w') : w'.rowIs b t n f := h.of_block (hb.block b h.lt)
/-- Two cells of a row are written. -/
theorem rowIs_set2 {w : World} {b : Nat} {t : TypeId} {n : Nat} {f : Nat → Value} (h : w.rowIs b t n f) (k : Nat) (v0 v1 : Value) :
    ((w.setCell ⟨b, k * 2, none⟩ v0).setCell ⟨b, k * 2 + 1, none⟩ v1).rowIs b t n (fun j => if j = k * 2 + 1 then v1 else if j = k * 2 then v0 else f j) :=
  (h.set (k * 2) v0).set (k * 2 + 1) v1
theorem Try.info_edge : (Try.prog.info? 73).map (fun i => (i.zero, i.size, i.bytes)) = some (some (.agg #[.int .i64 0, .int .i64 0]), 2, 16) := by kernel_rfl
theorem Try.info_state : (Try.prog.info? 49).map (fun i => (i.zero, i.size, i.bytes)) = some (some (.agg #[.bool false, .slice none 0 0]), 2, 32) := by kernel_rfl
/-- make of a row of two cells an element. -/
theorem run_make2 (P : Program) (t e : TypeId) (z0 z1 : Value) (bytes : Nat) (ht : P.underlying t = some (.slice e)) (hinfo : (P.info? e).map (fun i => (i.zero, i.size, i.bytes)) = some (some (.agg #[z0, z1]), 2, bytes))
    (n : Nat) (hbytes : bytes * n ≤ 281474976710656) (h63 : n ≤ 9223372036854775807) (w : World) :
    (Instr.makeSlice t (.int .i64 (n : Int)) (.int .i64 (n : Int))).run P w = .ok (.slice (some ⟨w.heap.size, 0, none⟩) n n) (w.alloc (.cells (madeCells #[z0, z1] (n * 2)) e)) := by
  obtain ⟨i, hi, hz, hs, hb⟩ := info_parts hinfo
  have hb' : (i.bytes : Int) * (n : Int) ≤ 281474976710656 := by
    have h : ((i.bytes * n : Nat) : Int) ≤ 281474976710656 := by rw [hb]; omega
    rwa [Int.natCast_mul] at h
  have hr := run_make (P := P) w t e i _ ht hi hz .i64 .i64 n n (by omega) (Int.le_refl _) hb' (by omega)
  simp only [Int.toNat_natCast, hs] at hr
  exact hr
theorem rowIs_made2 (w : World) (z0 z1 : Value) (n : Nat) (t : TypeId) : ∃ f, (w.alloc (.cells (madeCells #[z0, z1] n) t)).rowIs w.heap.size t n f :=
  ⟨fun i => (madeCells #[z0, z1] n)[i]?.getD z0, _, Go.Deep.blk_alloc_new _ _, size_madeCells _ _, fun i hi => by
    have : i < (madeCells #[z0, z1] n).size := by rw [size_madeCells]; exact hi
    simp [Array.getElem?_eq_getElem this]⟩
set_option maxHeartbeats 1000000 in
theorem toEdgeS_any (w : World) (v : Value) (es : List (Int × Int)) (h : EdgesIn 0 w v es) (hn : es.length ≤ 1048576) :
    Calls Try.prog 50 #[v] w fun e w' => ∃ v', e = .returned v' ∧ EdgesIn w.heap.size w' v' es ∧ Below w.heap.size w w' := by
  obtain ⟨a, cap, rfl, hc, hm⟩ := h.form
  have HS : Hid (EdgesIn 0 w (.slice a es.length cap) es) := h
  clear h
  have hmk := run_make2 Try.prog 47 73 _ _ _ Try.underlying47 Try.info_edge es.length (by omega) (by omega)
  obtain ⟨f0, hf0⟩ := rowIs_made2 w (.int .i64 0) (.int .i64 0) (es.length * 2) 73
  have HF : Hid ((w.alloc (.cells (madeCells #[.int .i64 0, .int .i64 0] (es.length * 2)) 73)).rowIs w.heap.size 73 (es.length * 2) f0) := hf0
  clear hf0
  go_enter Try.func50, Try.ntmps50
  go_wp2
  go_loopw [4] (fun i wr => ∃ (k : Nat) (f : Nat → Value), k ≤ es.length ∧ i = .int .i64 k ∧ wr.rowIs w.heap.size 73 (es.length * 2) f ∧ (∀ (j : Nat) (e : Int × Int), j < k → es[j]? = some e → f (j * 2) = .int .i64 e.1 ∧ f (j * 2 + 1) = .int .i64 e.2) ∧ Below w.heap.size w wr) (fun i _ => es.length - (intOf i).toNat)
  case atStart => exact ⟨0, f0, Nat.zero_le _, rfl, HF.out, fun j s hj => absurd hj (by omega), (Below.refl _ _).alloc (Nat.le_refl _) _⟩
  case round =>
    obtain ⟨k, f, hk, rfl, hrow, hall, hb⟩ := hrel
    have HA : Hid (∀ (j : Nat) (e : Int × Int), j < k → es[j]? = some e → f (j * 2) = .int .i64 e.1 ∧ f (j * 2 + 1) = .int .i64 e.2) := hall
    have HB : Hid (Below w.heap.size w wr) := hb
    have HW : Hid (wr.rowIs w.heap.size 73 (es.length * 2) f) := hrow
    clear hall hb hrow
    by_cases hlt : k < es.length
    · obtain ⟨b, off, cap', s, hv, _, _, hbl, hs, c1, c2⟩ := (HS.out.below HB.out).at hlt
      cases hv
      have HX : Hid (es[k]? = some s) := hs
      clear hs
      go_wp2_with fail
      refine (toEdge_any _ _ _).mono ?_
      rintro e w' ⟨rfl, hb'⟩
      have HW' : Hid (w'.rowIs w.heap.size 73 (es.length * 2) f) := rowIs_below HW.out hb'
      have HB' : Hid (Below w.heap.size w w') := HB.out.trans (hb'.mono HB.out.size)
      have d1 := HW'.out.cell (i := k * 2) (by omega)
      have d2 := HW'.out.cell (i := k * 2 + 1) (by omega)
      have g1 := HW'.out.frozen (k * 2)
      have g2 := HW'.out.frozen (k * 2 + 1)
      clear hb' c1 c2
      go_wp2
      go_roundw
      case rel =>
        refine ⟨k + 1, _, by omega, by go_num, rowIs_set2 HW'.out k _ _, fun j x hj hx => ?_, (HB'.out.setCell (Nat.le_refl _) _).setCell (Nat.le_refl _) _⟩
        by_cases e : j = k
        · subst e
          rw [HX.out] at hx
          cases hx
          exact ⟨by rw [if_neg (by omega), if_pos rfl], by rw [if_pos rfl]⟩
        · obtain ⟨e1, e2⟩ := HA.out j x (by omega) hx
          exact ⟨by rw [if_neg (by omega), if_neg (by omega)]; exact e1, by rw [if_neg (by omega), if_neg (by omega)]; exact e2⟩
      case measure => simp [intOf]; omega
    · go_wp2
      go_ret
      refine ⟨_, rfl, ⟨_, es.length, rfl, Nat.le_refl _, by unfold maxLen; omega, fun _ => ⟨w.heap.size, 0, rfl, Nat.le_refl _, HW.out.lt, fun i e he => ?_⟩⟩, HB.out⟩
      have hi := (List.getElem?_eq_some_iff.1 he).1
      obtain ⟨e1, e2⟩ := HA.out i e (by omega) he
      rw [Nat.zero_add, HW.out.cell (by omega), HW.out.cell (by omega), e1, e2]
      exact ⟨rfl, rfl⟩
set_option maxHeartbeats 1000000 in
theorem toState_any (w : World) (b : Bool) (v : Value) (es : List (Int × Int)) (h : EdgesIn 0 w v es) (hn : es.length ≤ 1048576) :
    Calls Try.prog 28 #[.agg #[.bool b, v]] w fun e w' => ∃ v', e = .returned (.agg #[.bool b, v']) ∧ EdgesIn w.heap.size w' v' es ∧ Below w.heap.size w w' := by
  obtain ⟨a, cap, rfl, hc, hm⟩ := h.form
  have HS : Hid (EdgesIn 0 w (.slice a es.length cap) es) := h
  clear h
  go_enter Try.func28, Try.ntmps28
  go_wp2_with fail
  refine (toEdgeS_any _ _ es ?e1 hn).mono ?_
  case e1 => exact HS.out.below (by repeat (first | exact Below.refl _ _ | refine Below.setCell ?_ (by simp) _ | refine Below.alloc ?_ (by simp <;> omega) _))
  rintro e w' ⟨v', rfl, hE, hb'⟩
  obtain ⟨a', cap', rfl, hc', hm'⟩ := hE.form
  have HE : Hid (EdgesIn (w.heap.size + 3) w' (.slice a' es.length cap') es) := hE.lower (by simp <;> omega)
  obtain ⟨hcl, hfz⟩ := bcell2 hb'
  have hz := hb'.size
  have HB : Hid (Below w.heap.size w w') := Below.trans (by repeat (first | exact Below.refl _ _ | refine Below.setCell ?_ (by simp) _ | refine Below.alloc ?_ (by simp <;> omega) _)) (hb'.mono (by simp <;> omega))
  simp at hz
  clear hE hb'
  go_wp2
  refine bodyPost_ret (v := .agg #[.bool b, .slice a' es.length cap']) (by simp [results, Try.results28, go_sem, hcl, World.cell?_setCell_same', World.cell?_setCell_other]) rfl ⟨_, rfl, ?_, ?_⟩
  · exact (((HE.out.set (by simp) _).set (by simp <;> omega) _).set (by simp <;> omega) _).lower (by omega)
  · exact ((HB.out.setCell (by simp <;> omega) _).setCell (by simp) _).setCell (by simp) _
/-- Behind a round of toStateS: the states so far. -/
def StatesTo (g n k : Nat) (ss : List Sta) (wr : World) (f : Nat → Value) : Prop :=
  ∀ (j : Nat) (s : Sta), j < k → ss[j]? = some s → f (j * 2) = .bool s.ends ∧ EdgesIn (g + 1) wr (f (j * 2 + 1)) s.es
theorem StatesTo.keep {g n k : Nat} {ss : List Sta} {wr w' : World} {f : Nat → Value} (h : StatesTo g n k ss wr f) (hb : Below wr.heap.size wr w') : StatesTo g n k ss w' f :=
  fun j s hj hs => ⟨(h j s hj hs).1, (h j s hj hs).2.below hb⟩
theorem StatesTo.set {g n k : Nat} {ss : List Sta} {wr : World} {f : Nat → Value} (h : StatesTo g n k ss wr f) {s : Sta} (hs : ss[k]? = some s) {ev : Value} (he : EdgesIn (g + 1) wr ev s.es) :
    StatesTo g n (k + 1) ss ((wr.setCell ⟨g, k * 2, none⟩ (.bool s.ends)).setCell ⟨g, k * 2 + 1, none⟩ ev) (fun j => if j = k * 2 + 1 then ev else if j = k * 2 then .bool s.ends else f j) := by
  intro j x hj hx
  show (if j * 2 = k * 2 + 1 then ev else if j * 2 = k * 2 then .bool s.ends else f (j * 2)) = _ ∧ EdgesIn (g + 1) _ (if j * 2 + 1 = k * 2 + 1 then ev else if j * 2 + 1 = k * 2 then .bool s.ends else f (j * 2 + 1)) x.es
  by_cases e : j = k
  · subst e
    rw [hs] at hx
    cases hx
    rw [if_neg (by omega), if_pos rfl, if_pos rfl]
    exact ⟨rfl, (he.set (by simp) _).set (by simp) _⟩
  · obtain ⟨e1, e2⟩ := h j x (by omega) hx
    rw [if_neg (by omega), if_neg (by omega), if_neg (by omega), if_neg (by omega)]
    exact ⟨e1, (e2.set (by simp) _).set (by simp) _⟩
theorem StatesTo.done {g n : Nat} {ss : List Sta} {wr : World} {f : Nat → Value} {t : TypeId} (h : StatesTo g n ss.length ss wr f) (hr : wr.rowIs g t (ss.length * 2) f) (hm : ss.length ≤ maxLen) :
    StatesAt wr (.slice (some ⟨g, 0, none⟩) ss.length ss.length) ss := by
  refine ⟨_, ss.length, rfl, Nat.le_refl _, hm, fun _ => ⟨g, 0, rfl, hr.lt, fun i s hs => ?_⟩⟩
  have hi := (List.getElem?_eq_some_iff.1 hs).1
  obtain ⟨e1, e2⟩ := h i s hi hs
  rw [Nat.zero_add, hr.cell (by omega), hr.cell (by omega), e1]
  exact ⟨rfl, _, rfl, e2.lower (Nat.zero_le _)⟩
set_option maxHeartbeats 1000000 in
theorem toStateS_any (w : World) (v : Value) (ss : List Sta) (h : StatesAt w v ss) (hn : SmallS ss) :
    Calls Try.prog 10 #[v] w fun e w' => ∃ v', e = .returned v' ∧ StatesAt w' v' ss ∧ Below w.heap.size w w' := by
  obtain ⟨a, cap, rfl, hc, hm⟩ := h.form
  have HS : Hid (StatesAt w (.slice a ss.length cap) ss) := h
  have HN : Hid (SmallS ss) := hn
  have hn1 : ss.length ≤ 1048576 := hn.1
  clear h hn
  have hmk := run_make2 Try.prog 25 49 _ _ _ Try.underlying25 Try.info_state ss.length (by omega) (by omega)
  obtain ⟨f0, hf0⟩ := rowIs_made2 w (.bool false) (.slice none 0 0) (ss.length * 2) 49
  have HF : Hid ((w.alloc (.cells (madeCells #[.bool false, .slice none 0 0] (ss.length * 2)) 49)).rowIs w.heap.size 49 (ss.length * 2) f0) := hf0
  clear hf0
  go_enter Try.func10, Try.ntmps10
  go_wp2
  go_loopw [4] (fun i wr => ∃ (k : Nat) (f : Nat → Value), k ≤ ss.length ∧ i = .int .i64 k ∧ wr.rowIs w.heap.size 49 (ss.length * 2) f ∧ StatesTo w.heap.size 0 k ss wr f ∧ Below w.heap.size w wr) (fun i _ => ss.length - (intOf i).toNat)
  case atStart => exact ⟨0, f0, Nat.zero_le _, rfl, HF.out, fun j s hj => absurd hj (by omega), (Below.refl _ _).alloc (Nat.le_refl _) _⟩
  case round =>
    obtain ⟨k, f, hk, rfl, hrow, hall, hb⟩ := hrel
    have HA : Hid (StatesTo w.heap.size 0 k ss wr f) := hall
    have HB : Hid (Below w.heap.size w wr) := hb
    have HW : Hid (wr.rowIs w.heap.size 49 (ss.length * 2) f) := hrow
    clear hall hb hrow
    by_cases hlt : k < ss.length
    · obtain ⟨b, off, cap', s, ev, hv, _, _, hbl, hs, c1, c2, hev⟩ := (HS.out.below HB.out).at hlt
      cases hv
      have HX : Hid (ss[k]? = some s) := hs
      have HE : Hid (EdgesIn 0 wr ev s.es) := hev
      clear hs hev
      go_wp2_with fail
      refine (toState_any _ _ _ s.es HE.out (HN.out.2 k s HX.out)).mono ?_
      rintro e w' ⟨ev', rfl, hE, hb'⟩
      obtain ⟨a', cap', rfl, hc', hm'⟩ := hE.form
      have HE' : Hid (EdgesIn (w.heap.size + 1) w' (.slice a' s.es.length cap') s.es) := hE.lower (by have := HW.out.lt; omega)
      have HA' : Hid (StatesTo w.heap.size 0 k ss w' f) := HA.out.keep hb'
      have HW' : Hid (w'.rowIs w.heap.size 49 (ss.length * 2) f) := rowIs_below HW.out hb'
      have HB' : Hid (Below w.heap.size w w') := HB.out.trans (hb'.mono HB.out.size)
      have d1 := HW'.out.cell (i := k * 2) (by omega)
      have d2 := HW'.out.cell (i := k * 2 + 1) (by omega)
      have g1 := HW'.out.frozen (k * 2)
      have g2 := HW'.out.frozen (k * 2 + 1)
      clear hb' c1 c2 hE
      go_wp2
      go_roundw
      case rel => exact ⟨k + 1, _, by omega, by go_num, rowIs_set2 HW'.out k _ _, HA'.out.set HX.out HE'.out, (HB'.out.setCell (Nat.le_refl _) _).setCell (Nat.le_refl _) _⟩
      case measure => simp [intOf]; omega
    · obtain rfl : k = ss.length := by omega
      go_wp2
      go_ret
      exact ⟨_, rfl, HA.out.done HW.out (by unfold maxLen; omega), HB.out⟩
end Go.Proofs.Ytbkjbkdmanaohaa
