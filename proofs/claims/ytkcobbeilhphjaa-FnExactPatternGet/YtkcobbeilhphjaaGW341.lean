/-
  Rows of numbers that a law is given: opened, their size, a copy, held against each other.
-/
import Derived.Test.YtkcobbeilhphjaaProg
import Derived.Deep.QuietTactic
import Derived.BigQuiet
import Derived.WalkKit
import Derived.WalkSpells
import Derived.WalkLawsBesides
import Derived.Lib.SmallJoins
import Derived.Deep.WholeRow
import Derived.Deep.OwnRows
import Derived.Deep.RegionWith
import Derived.ProofKit
import Derived.OpenShut
import Derived.ShutString
import Derived.ChangeOld
import Derived.ChangeArms
namespace Go.Proofs.Ytkcobbeilhphjaa
open Go.ChangeShapes Go.WideShapes Go.ChangeAt Go.RowKit
set_option linter.unusedVariables false
/-- A slice of numbers. -/
def IntsAt (w : World) (v : Value) (xs : List Int) : Prop :=
  ∃ a cap, v = .slice a xs.length cap ∧ xs.length ≤ cap ∧ xs.length ≤ maxLen ∧
    (xs ≠ [] → ∃ b off, a = some ⟨b, off, none⟩ ∧ b < w.heap.size ∧ ∀ (i : Nat) (x : Int), xs[i]? = some x → w.cell? ⟨b, off + i, none⟩ = some (.int .i64 x))
theorem IntsAt.below {w w' : World} {v : Value} {xs : List Int} (h : IntsAt w v xs) (hb : Below w.heap.size w w') : IntsAt w' v xs := by
  obtain ⟨a, cap, hv, hc, hm, hh⟩ := h
  refine ⟨a, cap, hv, hc, hm, fun hn => ?_⟩
  obtain ⟨b, off, ha, h2, h3⟩ := hh hn
  exact ⟨b, off, ha, Nat.lt_of_lt_of_le h2 hb.size, fun i x hx => (hb.cell (p := ⟨b, off + i, none⟩) h2).trans (h3 i x hx)⟩
theorem IntsAt.form {w : World} {v : Value} {xs : List Int} (h : IntsAt w v xs) : ∃ a cap, v = .slice a xs.length cap ∧ xs.length ≤ cap ∧ xs.length ≤ maxLen := by
  obtain ⟨a, cap, hv, hc, hm, hh⟩ := h
  exact ⟨a, cap, hv, hc, hm⟩
theorem not_nilI {α : Type} {l : List α} {i : Nat} {x : α} (h : l[i]? = some x) : l ≠ [] := by rintro rfl; simp at h
theorem IntsAt.at {w : World} {v : Value} {xs : List Int} (h : IntsAt w v xs) {k : Nat} (hk : k < xs.length) :
    ∃ b off cap x, v = .slice (some ⟨b, off, none⟩) xs.length cap ∧ b < w.heap.size ∧ xs[k]? = some x ∧ w.cell? ⟨b, off + k, none⟩ = some (.int .i64 x) := by
  obtain ⟨a, cap, hv, hc, hm, hh⟩ := h
  have he := List.getElem?_eq_getElem hk
  obtain ⟨b, off, rfl, h2, h3⟩ := hh (not_nilI he)
  exact ⟨b, off, cap, _, hv, h2, he, h3 k _ he⟩
theorem cell_ltI {w : World} {a : Addr} {v : Value} (h : w.cell? a = some v) : a.block < w.heap.size ∧ a.spot = none := by
  unfold World.cell? at h
  split at h
  · rename_i c _ _ hb
    constructor
    · rcases Nat.lt_or_ge a.block w.heap.size with hlt | hge
      · exact hlt
      · rw [Array.getElem?_eq_none hge] at hb; cases hb
    · split at h
      · cases h
      · rename_i hs; simpa using hs
  · cases h
theorem add_plainI (b o j : Nat) : (⟨b, o, none⟩ : Addr).add j = ⟨b, o + j, none⟩ := by unfold Addr.add; split <;> simp_all
theorem range_map_atI {α : Type} {n : Nat} {f : Nat → α} {i : Nat} {x : α} (h : ((List.range n).map f)[i]? = some x) : i < n ∧ x = f i := by
  have hi := (List.getElem?_eq_some_iff.1 h).1
  simp at hi
  rw [List.getElem?_map, List.getElem?_range hi] at h
  exact ⟨hi, by simpa using h.symm⟩
set_option maxRecDepth 100000 in
theorem open_intsV {H : Type} {enc : TypeId × Value → H} {w : World} {base : Nat} {spare : Nat → Bool} {held : Bool} {fuel : Nat} {v : Value} {x : DataW H × List MemPlace}
    (h : DataW.trod enc Try.prog w base spare held fuel 22 [v] = some x) : ∃ xs, IntsAt w v xs := by
  rcases Go.Deep.open_slice1 Try.underlying22 (by kernel_rfl) h with ⟨h0, _⟩ | ⟨a, len, cap, m, n, V, D, Pl, hcs, hb, hl, hm, hmm, _, hall⟩
  · simp at h0; subst h0
    exact ⟨[], none, 0, rfl, Nat.le_refl _, Nat.zero_le _, fun hn => absurd rfl hn⟩
  · simp at hcs; subst hcs
    have hlm : len ≤ m := by rw [hmm]; split <;> omega
    obtain ⟨q, hq⟩ := Go.Deep.choose_lt (α := Int) (n := len) (p := fun i e => w.cell? (a.add i) = some (.int .i64 e)) (fun i hi => by
      obtain ⟨c0, t0⟩ := hall i (by omega)
      obtain ⟨z0, e0, -, l0⟩ := DataW.trod_int Try.underlying3 t0
      simp only [List.cons.injEq, and_true] at e0
      exact ⟨z0, by rw [c0, e0]⟩)
    refine ⟨(List.range len).map q, some a, cap, by simp, by simpa using hl, by simpa using Nat.le_trans hl hm, fun hn => ?_⟩
    have hpos : 0 < len := by
      rcases Nat.eq_zero_or_pos len with h0 | h0
      · subst h0; simp at hn
      · exact h0
    have c0 := hq 0 hpos
    have ha : a.add 0 = a := by simp [Addr.add]
    rw [ha] at c0
    obtain ⟨hlt, hs⟩ := cell_ltI c0
    obtain ⟨b, off, sp⟩ := a
    simp only at hs hlt
    subst hs
    refine ⟨b, off, rfl, hlt, fun i e he => ?_⟩
    obtain ⟨hi, rfl⟩ := range_map_atI he
    have := hq i hi
    rwa [add_plainI] at this
set_option maxHeartbeats 400000 in
theorem szIntS_any (w : World) (v : Value) (xs : List Int) (left : Int) (h : IntsAt w v xs) (h0 : 0 ≤ left) (h1 : left ≤ 1048576) :
    Calls Try.prog 17 #[v, .int .i64 left] w fun e w' => (∃ r : Int, e = .returned (.int .i64 r) ∧ r ≤ left ∧ (0 ≤ r → xs.length ≤ 1048576)) ∧ w' = w := by
  obtain ⟨a, cap, rfl, hc, hm⟩ := h.form
  unfold maxLen at hm
  clear h
  by_cases hl : left - xs.length < 0
  · go_enter Try.func17, Try.ntmps17
    go_wp2
    go_ret
    exact ⟨⟨-1, rfl, by omega, by omega⟩, rfl⟩
  · go_enter Try.func17, Try.ntmps17
    go_wp2
    go_ret
    exact ⟨⟨left - xs.length, rfl, by omega, by omega⟩, rfl⟩
theorem Try.info_intI : (Try.prog.info? 3).map (fun i => (i.zero, i.size, i.bytes)) = some (some (.int .i64 0), 1, 8) := by kernel_rfl
set_option maxHeartbeats 1000000 in
theorem toIntS_any (w : World) (v : Value) (xs : List Int) (h : IntsAt w v xs) (hn : xs.length ≤ 1048576) :
    Calls Try.prog 19 #[v] w fun e w' => e = .returned (.slice (some ⟨w.heap.size, 0, none⟩) xs.length xs.length) ∧ IntsAt w' (.slice (some ⟨w.heap.size, 0, none⟩) xs.length xs.length) xs ∧ Below w.heap.size w w' := by
  obtain ⟨a, cap, rfl, hc, hm⟩ := h.form
  have HS : Hid (IntsAt w (.slice a xs.length cap) xs) := h
  clear h
  unfold maxLen at hm
  have hmk := run_make_row' (P := Try.prog) 22 3 (.int .i64 0) 8 Try.underlying22 Try.info_intI rfl .i64 .i64 xs.length (by omega) (by omega)
  have HF : Hid ((w.alloc (.cells (madeCells #[.int .i64 0] xs.length) 3)).rowIs w.heap.size 3 xs.length (fun _ => .int .i64 0)) := World.rowIs_made w (.int .i64 0) xs.length 3
  go_enter Try.func19, Try.ntmps19
  go_wp2
  go_loopw [4] (fun i wr => ∃ (k : Nat) (f : Nat → Value), k ≤ xs.length ∧ i = .int .i64 k ∧ wr.rowIs w.heap.size 3 xs.length f ∧ (∀ (j : Nat) (x : Int), j < k → xs[j]? = some x → f j = .int .i64 x) ∧ Below w.heap.size w wr) (fun i _ => xs.length - (intOf i).toNat)
  case atStart => exact ⟨0, _, Nat.zero_le _, rfl, HF.out, fun j s hj => absurd hj (by omega), (Below.refl _ _).alloc (Nat.le_refl _) _⟩
  case round =>
    obtain ⟨k, f, hk, rfl, hrow, hall, hb⟩ := hrel
    have HA : Hid (∀ (j : Nat) (x : Int), j < k → xs[j]? = some x → f j = .int .i64 x) := hall
    have HB : Hid (Below w.heap.size w wr) := hb
    have HW : Hid (wr.rowIs w.heap.size 3 xs.length f) := hrow
    clear hall hb hrow
    by_cases hlt : k < xs.length
    · obtain ⟨b, off, cap', x, hv, hbl, hx, e0⟩ := (HS.out.below HB.out).at hlt
      cases hv
      have HX : Hid (xs[k]? = some x) := hx
      have d0 := HW.out.cell (i := k) hlt
      have g0 := HW.out.frozen k
      clear hx
      go_wp2
      go_roundw
      case rel =>
        refine ⟨k + 1, _, by omega, by go_num, HW.out.set k _, fun j y hj hy => ?_, HB.out.setCell (Nat.le_refl _) _⟩
        by_cases e : j = k
        · subst e
          rw [HX.out] at hy
          cases hy
          simp
        · simp only [e, if_false]
          exact HA.out j y (by omega) hy
      case measure => simp [intOf]; omega
    · obtain rfl : k = xs.length := by omega
      go_wp2
      go_ret
      refine ⟨rfl, ⟨_, _, rfl, Nat.le_refl _, by unfold maxLen; omega, fun hne => ⟨w.heap.size, 0, rfl, HW.out.lt, fun i x hx => ?_⟩⟩, HB.out⟩
      have hi : i < xs.length := (List.getElem?_eq_some_iff.1 hx).1
      rw [Nat.zero_add]
      exact (HW.out.cell hi).trans (by rw [HA.out i x hi hx])
set_option maxHeartbeats 1000000 in
theorem eqIntS_same (w : World) (v u : Value) (xs : List Int) (h : IntsAt w v xs) (h' : IntsAt w u xs) :
    Calls Try.prog 24 #[v, u] w fun e w' => e = .returned (.bool true) ∧ Below w.heap.size w w' := by
  obtain ⟨a, cap, rfl, hc, hm⟩ := h.form
  obtain ⟨a', cap', rfl, hc', hm'⟩ := h'.form
  have HS : Hid (IntsAt w (.slice a xs.length cap) xs) := h
  have HS' : Hid (IntsAt w (.slice a' xs.length cap') xs) := h'
  clear h h'
  unfold maxLen at hm hm'
  go_enter Try.func24, Try.ntmps24
  go_wp2
  go_loopw [5] (fun i wr => ∃ (k : Nat), k ≤ xs.length ∧ i = .int .i64 k ∧ Below w.heap.size w wr) (fun i _ => xs.length - (intOf i).toNat)
  case atStart => exact ⟨0, Nat.zero_le _, rfl, Below.refl _ _⟩
  case round =>
    obtain ⟨k, hk, rfl, hb⟩ := hrel
    have HB : Hid (Below w.heap.size w wr) := hb
    clear hb
    by_cases hlt : k < xs.length
    · obtain ⟨b, off, cap1, s, hv, _, hs, c1⟩ := (HS.out.below HB.out).at hlt
      cases hv
      obtain ⟨b', off', cap2, s', hv', _, hs', c1'⟩ := (HS'.out.below HB.out).at hlt
      cases hv'
      rw [hs] at hs'
      cases hs'
      clear hs
      go_wp2_with fail
      go_region
      all_goals
        go_wp2
        go_roundw
        case rel => exact ⟨k + 1, by omega, by go_num, HB.out.drew⟩
        case measure => simp [intOf]; omega
    · go_wp2
      go_ret
      exact ⟨rfl, HB.out⟩
/-- A number between two bounds. -/
def inI (n lo hi : Int) : Bool := decide (lo ≤ n) && decide (n ≤ hi)
set_option maxHeartbeats 400000 in
theorem l1InI_any (n lo hi : Int) (w : World) : Calls Try.prog 18 #[.int .i64 n, .int .i64 lo, .int .i64 hi] w fun e w' => e = .returned (.bool (inI n lo hi)) ∧ w' = w := by
  by_cases h1 : lo ≤ n
  · by_cases h2 : n ≤ hi
    · have HC : Hid (inI n lo hi = true) := by show _ = _; unfold inI; simp [h1, h2]
      go_enter Try.func18, Try.ntmps18
      go_wp2
      go_ret
      rw [HC.out]
      exact ⟨rfl, rfl⟩
    · have HC : Hid (inI n lo hi = false) := by show _ = _; unfold inI; simp [h2]
      go_enter Try.func18, Try.ntmps18
      go_wp2
      go_ret
      rw [HC.out]
      exact ⟨rfl, rfl⟩
  · have HC : Hid (inI n lo hi = false) := by show _ = _; unfold inI; simp [h1]
    go_enter Try.func18, Try.ntmps18
    go_wp2
    go_ret
    rw [HC.out]
    exact ⟨rfl, rfl⟩
end Go.Proofs.Ytkcobbeilhphjaa
/-
  A pattern that a law is given: its size, a copy, held against another one.
-/
namespace Go.Proofs.Ytkcobbeilhphjaa
open Go.ChangeShapes Go.WideShapes Go.ChangeAt Go.RowKit
set_option linter.unusedVariables false
abbrev PatM := ByteArray × List Int
def PatAt (w : World) (v : Value) (x : PatM) : Prop := ∃ vn, v = .agg #[.string x.1, vn] ∧ x.1.size ≤ maxLen ∧ IntsAt w vn x.2
def PatOwn (lo hi : Nat) (w : World) (v : Value) (x : PatM) : Prop := PatAt w v x
def PatSm (x : PatM) : Prop := x.1.size ≤ 1048576 ∧ x.2.length ≤ 1048576
theorem PatAt.form2 {w : World} {v : Value} {x : PatM} (h : PatAt w v x) : ∃ s a l c, v = .agg #[.string s, .slice a l c] := by
  obtain ⟨vn, rfl, h0, h1⟩ := h
  obtain ⟨a, c, rfl, _⟩ := h1.form
  exact ⟨_, _, _, _, rfl⟩
theorem PatAt.below {w w' : World} {v : Value} {x : PatM} (h : PatAt w v x) (hb : Below w.heap.size w w') : PatAt w' v x := by
  obtain ⟨vn, hv, h0, h1⟩ := h
  exact ⟨vn, hv, h0, h1.below hb⟩
theorem PatOwn.at {lo hi : Nat} {w : World} {v : Value} {x : PatM} (h : PatOwn lo hi w v x) : PatAt w v x := h
theorem PatOwn.below {lo hi : Nat} {w w' : World} {v : Value} {x : PatM} (h : PatOwn lo hi w v x) (hb : Below w.heap.size w w') : PatOwn lo hi w' v x := PatAt.below h hb
theorem bcellI {W w1 : World} (hb : Below W.heap.size W w1) : (∀ b o, b < W.heap.size → w1.cell? ⟨b, o, none⟩ = W.cell? ⟨b, o, none⟩) ∧ (∀ b o, b < W.heap.size → w1.frozen? ⟨b, o, none⟩ = W.frozen? ⟨b, o, none⟩) :=
  ⟨fun b o h => hb.cell (p := ⟨b, o, none⟩) h, fun b o h => hb.frozen (p := ⟨b, o, none⟩) h⟩
set_option maxHeartbeats 1000000 in
theorem szPattern_u (w : World) (v : Value) (x : PatM) (left : Int) (h : PatAt w v x) (h0 : 0 ≤ left) (h1 : left ≤ 1048576) :
    Calls Try.prog 6 #[v, .int .i64 left] w fun e w' => (∃ r : Int, e = .returned (.int .i64 r) ∧ r ≤ left ∧ (0 ≤ r → PatSm x)) ∧ Below w.heap.size w w' := by
  obtain ⟨vn, rfl, hs, hn⟩ := h
  obtain ⟨s, ns⟩ := x
  simp only at hs hn
  obtain ⟨a, cap, rfl, hc, hm⟩ := hn.form
  have HN : Hid (IntsAt w (.slice a ns.length cap) ns) := hn
  unfold maxLen at hs
  clear hn
  by_cases hl : left - s.size < 0
  · go_enter Try.func6, Try.ntmps6
    go_wp2_with fail
    go_ret
    exact ⟨⟨-1, rfl, by omega, by omega⟩, (Below.refl _ _).alloc (Nat.le_refl _) _⟩
  · go_enter Try.func6, Try.ntmps6
    go_wp2_with fail
    refine (szIntS_any _ _ ns _ (HN.out.below ((Below.refl _ _).alloc (Nat.le_refl _) _)) (by omega) (by omega)).mono ?_
    rintro e w1 ⟨⟨r, rfl, hr1, hr2⟩, rfl⟩
    have HR : Hid (0 ≤ r → ns.length ≤ 1048576) := hr2
    clear hr2
    by_cases hr : r < 0
    · go_wp2_with fail
      go_ret
      exact ⟨⟨-1, rfl, by omega, by omega⟩, (Below.refl _ _).alloc (Nat.le_refl _) _⟩
    · go_wp2_with fail
      go_ret
      exact ⟨⟨r, rfl, by omega, fun h => ⟨by show s.size ≤ _; omega, HR.out h⟩⟩, (Below.refl _ _).alloc (Nat.le_refl _) _⟩
set_option maxHeartbeats 1000000 in
theorem eqPattern_u (w : World) (v u : Value) (x : PatM) (h : PatAt w v x) (h' : PatAt w u x) :
    Calls Try.prog 10 #[v, u] w fun e w' => e = .returned (.bool true) ∧ Below w.heap.size w w' := by
  obtain ⟨vn, rfl, hs, hn⟩ := h
  obtain ⟨un, rfl, hs', hn'⟩ := h'
  obtain ⟨s, ns⟩ := x
  simp only at hs hn hs' hn'
  obtain ⟨a, cap, rfl, hc, hm⟩ := hn.form
  obtain ⟨a', cap', rfl, hc', hm'⟩ := hn'.form
  have HN : Hid (IntsAt w (.slice a ns.length cap) ns) := hn
  have HN' : Hid (IntsAt w (.slice a' ns.length cap') ns) := hn'
  have hb2 : Hid (Below w.heap.size w ((w.alloc (.cells #[.string s, .slice a ns.length cap] 27)).alloc (.cells #[.string s, .slice a' ns.length cap'] 27))) := ((Below.refl _ _).alloc (Nat.le_refl _) _).alloc (by simp) _
  clear hn hn'
  go_enter Try.func10, Try.ntmps10
  go_wp2_with fail
  refine (eqIntS_same _ _ _ ns (HN.out.below hb2.out) (HN'.out.below hb2.out)).mono ?_
  rintro e w1 ⟨rfl, hb1⟩
  have HB1 : Hid (Below w.heap.size w w1) := hb2.out.trans (hb1.mono (by simp <;> omega))
  clear hb1
  go_wp2_with fail
  go_ret
  exact ⟨rfl, HB1.out⟩
set_option maxHeartbeats 1000000 in
theorem toPattern_u (w : World) (v : Value) (x : PatM) (h : PatAt w v x) (hsm : PatSm x) :
    Calls Try.prog 8 #[v] w fun e w' => ∃ v', e = .returned v' ∧ PatOwn w.heap.size w'.heap.size w' v' x ∧ Below w.heap.size w w' := by
  obtain ⟨vn, rfl, hs, hn⟩ := h
  obtain ⟨s, ns⟩ := x
  simp only at hs hn
  obtain ⟨a, cap, rfl, hc, hm⟩ := hn.form
  have HN : Hid (IntsAt w (.slice a ns.length cap) ns) := hn
  have HSM : Hid (ns.length ≤ 1048576) := hsm.2
  have HSS : Hid (s.size ≤ maxLen) := hs
  clear hn hsm hs
  go_enter Try.func8, Try.ntmps8
  go_wp2_with fail
  refine (toIntS_any _ _ ns (HN.out.below ?b1) HSM.out).mono ?_
  case b1 => exact (((Below.refl _ _).alloc (Nat.le_refl _) _).alloc (by simp) _).alloc (by simp <;> omega) _
  rintro e w1 ⟨rfl, hA1, hb1⟩
  have HB1 : Hid (Below w.heap.size w w1) := Below.trans ((((Below.refl _ _).alloc (Nat.le_refl _) _).alloc (by simp) _).alloc (by simp <;> omega) _) (hb1.mono (by simp <;> omega))
  obtain ⟨hcl, hfz⟩ := bcellI hb1
  have hz := hb1.size
  simp only [World.size_alloc] at hA1
  have HA1 : Hid (IntsAt w1 (.slice (some ⟨w.heap.size + 1 + 1 + 1, 0, none⟩) ns.length ns.length) ns) := hA1
  simp at hz
  have l1 : w.heap.size + 1 < w1.heap.size := by omega
  have l2 : w.heap.size + 1 + 1 < w1.heap.size := by omega
  have q10 : w1.cell? ⟨w.heap.size + 1, 0, none⟩ = some (.string ⟨#[]⟩) := by rw [hcl _ _ (by simp)]; simp [go_sem]
  have q11 : w1.cell? ⟨w.heap.size + 1, 1, none⟩ = some (.slice none 0 0) := by rw [hcl _ _ (by simp)]; simp [go_sem]
  have q20 : w1.cell? ⟨w.heap.size + 1 + 1, 0, none⟩ = some (.string s) := by rw [hcl _ _ (by simp)]; simp [go_sem]
  have q21 : w1.cell? ⟨w.heap.size + 1 + 1, 1, none⟩ = some (.slice none 0 0) := by rw [hcl _ _ (by simp)]; simp [go_sem]
  have z10 : w1.frozen? ⟨w.heap.size + 1, 0, none⟩ = false := by rw [hfz _ _ (by simp)]; simp [go_sem]
  have z11 : w1.frozen? ⟨w.heap.size + 1, 1, none⟩ = false := by rw [hfz _ _ (by simp)]; simp [go_sem]
  have z21 : w1.frozen? ⟨w.heap.size + 1 + 1, 1, none⟩ = false := by rw [hfz _ _ (by simp)]; simp [go_sem]
  clear hb1 hA1 hcl hfz
  go_wp2
  refine bodyPost_ret (v := .agg #[.string s, .slice (some ⟨w.heap.size + 1 + 1 + 1, 0, none⟩) ns.length ns.length]) (by simp [results, Try.results8, go_sem, q10, q11, World.cell?_setCell_same', World.cell?_setCell_other]) rfl ⟨_, rfl, ⟨_, rfl, HSS.out, ?_⟩, ?_⟩
  · have key : ∀ (W : World) (p : Addr) (u : Value), p.block < w.heap.size + 1 + 1 + 1 → IntsAt W (.slice (some ⟨w.heap.size + 1 + 1 + 1, 0, none⟩) ns.length ns.length) ns → IntsAt (W.setCell p u) (.slice (some ⟨w.heap.size + 1 + 1 + 1, 0, none⟩) ns.length ns.length) ns := by
      rintro W p u hp ⟨a1, c1, hv, hcc, hmm, hh⟩
      refine ⟨a1, c1, hv, hcc, hmm, fun hne => ?_⟩
      obtain ⟨b, off, ha, h2, h3⟩ := hh hne
      refine ⟨b, off, ha, by rw [Go.Deep.nblk_setCell]; exact h2, fun i x hx => ?_⟩
      have hb : b = w.heap.size + 1 + 1 + 1 := by
        rw [ha] at hv
        simp only [Value.slice.injEq, Option.some.injEq, Addr.mk.injEq] at hv
        omega
      rw [World.cell?_setCell_other _ _ _ _ (fun e => by rw [e] at hp; simp only at hp; omega)]
      exact h3 i x hx
    exact key _ _ _ (by simp) (key _ _ _ (by simp) (key _ _ _ (by simp) HA1.out))
  · exact ((HB1.out.setCell (by simp <;> omega) _).setCell (by simp <;> omega) _).setCell (by simp <;> omega) _
set_option maxRecDepth 100000 in
theorem open_patternV {H : Type} {enc : TypeId × Value → H} {w : World} {r : Reach} {b0 base : Nat} {spare : Nat → Bool} {held : Bool} {v : Value} {d : DataW H} {p : List MemPlace}
    (hv : Value.okWide Try.prog w r b0 24 v) (h : DataW.Trod enc Try.prog w base spare held 24 v d p) :
    ∃ sl vn ns, v = .agg #[.string sl, vn] ∧ PatAt w (.agg #[.string sl, vn]) (sl, ns) := by
  obtain ⟨cs, rfl, hsz⟩ := okWide_struct Try.underlying24 hv
  obtain ⟨c0, c1, rfl⟩ : ∃ va ve, cs = #[va, ve] := by
    have h2 : cs.size = 2 := hsz.trans (by kernel_rfl)
    obtain ⟨l⟩ := cs
    match l, h2 with
    | [x, y], _ => exact ⟨x, y, rfl⟩
  obtain ⟨fuel, hf⟩ := h
  obtain ⟨xs, n, rfl, hx, hl, hn, hall⟩ := DataW.trod_struct Try.underlying24 hf
  have k0 := hall 0 _ rfl
  have k1 := hall 1 _ rfl
  have o9 : Try.prog.cellsOf 9 = 1 := by kernel_rfl
  have o22 : Try.prog.cellsOf 22 = 1 := by kernel_rfl
  match xs, hn with
  | [y0, y1], _ =>
    simp [Value.cells, o9, o22] at k0 k1
    obtain ⟨s0, e0, -, l0⟩ := DataW.trod_string Try.underlying9 k0
    simp only [List.cons.injEq, and_true] at e0
    subst e0
    obtain ⟨ns, hns⟩ := open_intsV k1
    exact ⟨s0, c1, ns, rfl, ⟨c1, rfl, l0, hns⟩⟩
end Go.Proofs.Ytkcobbeilhphjaa
