/-
  Guesses in one form: in memory, held against each other, marked, and held against their marks.
-/
import Derived.Test.YthedglgljehmgaaGreatDoorGW144
import Derived.Test.YthedglgljehmgaaGreatDoorW129
namespace Go.Proofs.YthedglgljehmgaaGreatDoor
open Go.RowKit
set_option linter.unusedVariables false
abbrev GuessM := ByteArray × Int
def GuessAt (w : World) (v : Value) (gs : List GuessM) : Prop :=
  ∃ a cap, v = .slice a gs.length cap ∧ gs.length ≤ cap ∧ cap ≤ maxLen ∧ (∀ (i : Nat) (x : GuessM), gs[i]? = some x → x.1.size ≤ maxLen) ∧
    (gs ≠ [] → ∃ b off, a = some ⟨b, off, none⟩ ∧ b < w.heap.size ∧ ∀ (i : Nat) (x : GuessM), gs[i]? = some x → w.cell? ⟨b, off + i * 2, none⟩ = some (.string x.1) ∧ w.cell? ⟨b, off + i * 2 + 1, none⟩ = some (.int .i64 x.2))
theorem GuessAt.below {w w' : World} {v : Value} {gs : List GuessM} (h : GuessAt w v gs) (hb : Below w.heap.size w w') : GuessAt w' v gs := by
  obtain ⟨a, cap, hv, hc, hm, hf, hh⟩ := h
  refine ⟨a, cap, hv, hc, hm, hf, fun hn => ?_⟩
  obtain ⟨b, off, ha, h2, h3⟩ := hh hn
  refine ⟨b, off, ha, Nat.lt_of_lt_of_le h2 hb.size, fun i x hx => ?_⟩
  obtain ⟨c1, c2⟩ := h3 i x hx
  exact ⟨(hb.cell (p := ⟨b, off + i * 2, none⟩) h2).trans c1, (hb.cell (p := ⟨b, off + i * 2 + 1, none⟩) h2).trans c2⟩
theorem GuessAt.form {w : World} {v : Value} {gs : List GuessM} (h : GuessAt w v gs) : ∃ a cap, v = .slice a gs.length cap ∧ gs.length ≤ cap ∧ cap ≤ maxLen := by
  obtain ⟨a, cap, hv, hc, hm, hf, hh⟩ := h
  exact ⟨a, cap, hv, hc, hm⟩
theorem GuessAt.at {w : World} {v : Value} {gs : List GuessM} (h : GuessAt w v gs) {k : Nat} (hk : k < gs.length) :
    ∃ b off cap x, v = .slice (some ⟨b, off, none⟩) gs.length cap ∧ b < w.heap.size ∧ gs[k]? = some x ∧ x.1.size ≤ maxLen ∧ w.cell? ⟨b, off + k * 2, none⟩ = some (.string x.1) ∧ w.cell? ⟨b, off + k * 2 + 1, none⟩ = some (.int .i64 x.2) := by
  obtain ⟨a, cap, hv, hc, hm, hf, hh⟩ := h
  have he := List.getElem?_eq_getElem hk
  obtain ⟨b, off, rfl, h2, h3⟩ := hh (not_nil70 he)
  exact ⟨b, off, cap, _, hv, h2, he, hf k _ he, h3 k _ he⟩
def GsTo (k : Nat) (gs : List GuessM) (f : Nat → Value) : Prop := ∀ (j : Nat) (x : GuessM), j < k → gs[j]? = some x → f (j * 2) = .string x.1 ∧ f (j * 2 + 1) = .int .i64 x.2
theorem GsTo.next {k : Nat} {gs : List GuessM} {f : Nat → Value} (h : GsTo k gs f) {x : GuessM} (hx : gs[k]? = some x) :
    GsTo (k + 1) gs (fun j => if j = k * 2 + 1 then .int .i64 x.2 else if j = k * 2 then .string x.1 else f j) := by
  intro j y hj hy
  show (if j * 2 = k * 2 + 1 then Value.int .i64 x.2 else if j * 2 = k * 2 then .string x.1 else f (j * 2)) = _ ∧ (if j * 2 + 1 = k * 2 + 1 then Value.int .i64 x.2 else if j * 2 + 1 = k * 2 then .string x.1 else f (j * 2 + 1)) = _
  by_cases e : j = k
  · subst e
    rw [hx] at hy
    cases hy
    rw [if_neg (by omega), if_pos rfl, if_pos rfl]
    exact ⟨rfl, rfl⟩
  · obtain ⟨h1, h2⟩ := h j y (by omega) hy
    rw [if_neg (by omega), if_neg (by omega), if_neg (by omega), if_neg (by omega)]
    exact ⟨h1, h2⟩
def GuessOwn (lo hi : Nat) (w : World) (v : Value) (gs : List GuessM) : Prop :=
  RowOwn 33 2 lo hi w v gs.length (GsTo gs.length gs) ∧ ∀ (i : Nat) (x : GuessM), gs[i]? = some x → x.1.size ≤ maxLen
theorem GuessOwn.at {lo hi : Nat} {w : World} {v : Value} {gs : List GuessM} (h : GuessOwn lo hi w v gs) : GuessAt w v gs := by
  obtain ⟨⟨a, cap, hv, hc, hm, hh⟩, hf⟩ := h
  refine ⟨a, cap, hv, hc, hm, hf, fun hn => ?_⟩
  obtain ⟨g, m, f, ha, _, _, hle, hr, hx⟩ := hh (fun e => hn (List.length_eq_zero_iff.1 e))
  refine ⟨g, 0, ha, hr.lt, fun i x hi => ?_⟩
  have hlt : i < gs.length := (List.getElem?_eq_some_iff.1 hi).1
  obtain ⟨h0, h1⟩ := hx i x hlt hi
  rw [Nat.zero_add]
  exact ⟨(hr.cell (by omega)).trans (by rw [h0]), (hr.cell (by omega)).trans (by rw [h1])⟩
theorem GuessOwn.below {lo hi : Nat} {w w' : World} {v : Value} {gs : List GuessM} (h : GuessOwn lo hi w v gs) (hb : Below w.heap.size w w') : GuessOwn lo hi w' v gs := ⟨h.1.below hb, h.2⟩
theorem GuessOwn.wr {lo hi l h' : Nat} {w w' : World} {v : Value} {gs : List GuessM} (h : GuessOwn lo hi w v gs) (hw : Wr l h' w w') (hl : h' ≤ lo) : GuessOwn lo hi w' v gs := ⟨h.1.wr hw hl, h.2⟩
def marksG (k n : Nat) : List GuessM := (List.range n).map fun i => (markT (k + i * 2), ((k + i * 2 + 1 : Nat) : Int))
theorem marksG_length (k n : Nat) : (marksG k n).length = n := by simp [marksG]
theorem marksG_at {k n i : Nat} (h : i < n) : (marksG k n)[i]? = some (markT (k + i * 2), ((k + i * 2 + 1 : Nat) : Int)) := by simp [marksG, h]
theorem marksG_fit (k n : Nat) : ∀ (i : Nat) (x : GuessM), (marksG k n)[i]? = some x → x.1.size ≤ maxLen := fun i x hx => by
  have hi : i < n := by have := (List.getElem?_eq_some_iff.1 hx).1; rwa [marksG_length] at this
  rw [marksG_at hi] at hx
  cases hx
  exact markT_fit (k + i * 2)
/-- Guesses as cells. -/
def gsCells (ys : List GuessM) : List Value := ys.flatMap fun a => [.string a.1, .int .i64 a.2]
theorem gsCells_append (a b : List GuessM) : gsCells (a ++ b) = gsCells a ++ gsCells b := by simp [gsCells]
theorem gsCells_one (a : GuessM) : gsCells [a] = [.string a.1, .int .i64 a.2] := by simp [gsCells]
theorem gsCells_length (ys : List GuessM) : (gsCells ys).length = ys.length * 2 := by
  induction ys with
  | nil => rfl
  | cons y ys ih =>
    have : gsCells (y :: ys) = [.string y.1, .int .i64 y.2] ++ gsCells ys := rfl
    rw [this, List.length_append, ih, List.length_cons]
    simp
    omega
theorem gsCells_at : ∀ (ys : List GuessM) (i : Nat) (y : GuessM), ys[i]? = some y → (gsCells ys)[i * 2]? = some (.string y.1) ∧ (gsCells ys)[i * 2 + 1]? = some (.int .i64 y.2)
  | [], i, y, h => by simp at h
  | x :: xs, 0, y, h => by
    simp only [List.getElem?_cons_zero, Option.some.injEq] at h
    subst h
    exact ⟨rfl, rfl⟩
  | x :: xs, i + 1, y, h => by
    have h2 := gsCells_at xs i y (by simpa using h)
    have e : gsCells (x :: xs) = .string x.1 :: .int .i64 x.2 :: gsCells xs := rfl
    rw [e, show (i + 1) * 2 = i * 2 + 1 + 1 by omega, show i * 2 + 1 + 1 + 1 = (i * 2 + 1) + 1 + 1 by omega]
    simp only [List.getElem?_cons_succ]
    exact h2
theorem guessOwn_of_owns {w : World} {lo : Nat} {v : Value} {gs : List GuessM} (h : w.ownsRow lo 33 2 v gs.length (gsCells gs)) (hf : ∀ (i : Nat) (x : GuessM), gs[i]? = some x → x.1.size ≤ maxLen) : GuessOwn lo w.heap.size w v gs :=
  ⟨rowOwn_of_owns h fun f hf j x hj hx => ⟨hf _ _ (gsCells_at gs j x hx).1, hf _ _ (gsCells_at gs j x hx).2⟩, hf⟩
theorem eqGuess_same (s : ByteArray) (n : Int) (w : World) :
    Calls Tryz.prog 37 #[.agg #[.string s, .int .i64 n], .agg #[.string s, .int .i64 n]] w fun e w' => e = .returned (.bool true) ∧ Below w.heap.size w w' := by
  go_enter Tryz.func37, Tryz.ntmps37
  go_wp2
  go_ret
  exact ⟨rfl, ((Below.refl _ _).alloc (Nat.le_refl _) _).alloc (by simp) _⟩
set_option maxHeartbeats 1000000 in
theorem eqGuessS_same (w : World) (v u : Value) (es : List GuessM) (h : GuessAt w v es) (h' : GuessAt w u es) :
    Calls Tryz.prog 12 #[v, u] w fun e w' => e = .returned (.bool true) ∧ Below w.heap.size w w' := by
  obtain ⟨a, cap, rfl, hc, hm⟩ := h.form
  obtain ⟨a', cap', rfl, hc', hm'⟩ := h'.form
  have HS : Hid (GuessAt w (.slice a es.length cap) es) := h
  have HS' : Hid (GuessAt w (.slice a' es.length cap') es) := h'
  clear h h'
  unfold maxLen at hm hm'
  go_enter Tryz.func12, Tryz.ntmps12
  go_wp2
  go_loopw [5] (fun i wr => ∃ (k : Nat), k ≤ es.length ∧ i = .int .i64 k ∧ Below w.heap.size w wr) (fun i _ => es.length - (intOf i).toNat)
  case atStart => exact ⟨0, Nat.zero_le _, rfl, Below.refl _ _⟩
  case round =>
    obtain ⟨k, hk, rfl, hb⟩ := hrel
    have HB : Hid (Below w.heap.size w wr) := hb
    clear hb
    by_cases hlt : k < es.length
    · obtain ⟨b, off, cap1, x, hv, hbl, hx, _, c1, c2⟩ := (HS.out.below HB.out).at hlt
      cases hv
      obtain ⟨b', off', cap2, x', hv', hbl', hx', _, c1', c2'⟩ := (HS'.out.below HB.out).at hlt
      cases hv'
      rw [hx] at hx'
      cases hx'
      clear hx
      go_wp2_with fail
      go_region_with (go_at_call 37; refine (eqGuess_same _ _ _).mono ?_; rintro e w' ⟨rfl, hb'⟩; have HB' : Hid (Below w.heap.size w w') := HB.out.drew.trans (hb'.mono HB.out.size); clear hb')
      all_goals
        go_wp2
        go_roundw
        case rel => exact ⟨k + 1, by omega, by go_num, HB'.out⟩
        case measure => simp [intOf]; omega
    · go_wp2
      go_ret
      exact ⟨rfl, HB.out⟩
set_option maxHeartbeats 1000000 in
theorem markGuessS_any (lo hi k : Nat) (w : World) (v : Value) (n : Nat) (C : (Nat → Value) → Prop) (h : RowOwn 33 2 lo hi w v n C) (hn : n ≤ 2000000000) (hk : k ≤ 100000000000) (hlo : lo ≤ w.heap.size) :
    Calls Tryz.prog 15 #[v, .int .i64 k] w fun e w' => e = .returned (.int .i64 ((k + n * 2 : Nat) : Int)) ∧ GuessOwn lo hi w' v (marksG k n) ∧ Wr lo hi w w' ∧ w.grownBy w' (rowOf v n) := by
  obtain ⟨a, cap, rfl, hc, hm, hh⟩ := h
  have HC : Hid (cap ≤ maxLen) := hm
  unfold maxLen at hm
  by_cases h0 : n = 0
  · subst h0
    clear hh
    have HR : Hid (GuessOwn lo hi w (.slice a 0 cap) (marksG k 0)) := ⟨⟨a, cap, rfl, hc, HC.out, fun hh => absurd rfl hh⟩, marksG_fit k 0⟩
    go_enter Tryz.func15, Tryz.ntmps15
    go_wp2
    go_loopw [1, 5] (fun kv i wr => kv = .int .i64 k ∧ i = .int .i64 0 ∧ wr = w) (fun _ i _ => 0)
    case atStart => exact ⟨rfl, rfl, rfl⟩
    case round =>
      obtain ⟨rfl, rfl, rfl⟩ := hrel
      go_wp2
      go_ret
      exact ⟨by simp, HR.out, Wr.refl _ _ _, grown_refl _ _⟩
  · obtain ⟨g, m, f0, rfl, hg, hgh, hle, hr, _⟩ := hh h0
    have HR : Hid (w.rowIs g 33 m f0) := hr
    clear hr hh
    go_enter Tryz.func15, Tryz.ntmps15
    go_wp2
    go_loopw [1, 5] (fun kv i wr => ∃ (j : Nat) (f : Nat → Value), j ≤ n ∧ kv = .int .i64 (k + j * 2) ∧ i = .int .i64 j ∧ wr.rowIs g 33 m f ∧ GsTo j (marksG k n) f ∧ Wr lo hi w wr ∧ w.grownBy wr (some g)) (fun _ i _ => n - (intOf i).toNat)
    case atStart => exact ⟨0, f0, Nat.zero_le _, by simp, rfl, HR.out, fun j x hj => absurd hj (by omega), Wr.refl _ _ _, grown_refl _ _⟩
    case round =>
      obtain ⟨j, f, hj, rfl, rfl, hr, ha, hw, hb⟩ := hrel
      have HB : Hid (w.grownBy wr (some g)) := hb
      have HW : Hid (wr.rowIs g 33 m f) := hr
      have HA : Hid (GsTo j (marksG k n) f) := ha
      have HR2 : Hid (Wr lo hi w wr) := hw
      have hlr : lo ≤ wr.heap.size := Nat.le_trans hlo hw.sz
      clear hb hr ha hw
      by_cases hlt : j < n
      · have HX : Hid ((marksG k n)[j]? = some (markT (k + j * 2), ((k + j * 2 + 1 : Nat) : Int))) := marksG_at hlt
        have hm1 := markT_size (k + j * 2)
        go_wp2_with fail
        refine (markText_int _ (k + j * 2) (by push_cast; omega) (by omega) _).mono ?_
        rintro e w1 ⟨rfl, hb1⟩
        have HW1 : Hid (w1.rowIs g 33 m f) := HW.out.of_block (hb1.block g HW.out.lt)
        have HR3 : Hid (Wr lo hi w w1) := HR2.out.trans (Wr.of_below hb1 hlr)
        have HB1 : Hid (w.grownBy w1 (some g)) := grown_trans HB.out (grown_of_below _ hb1)
        have hl1 : lo ≤ w1.heap.size := Nat.le_trans hlr hb1.size
        have d0 := HW1.out.cell (i := j * 2) (by omega)
        have g0 := HW1.out.frozen (j * 2)
        have d1 := HW1.out.cell (i := j * 2 + 1) (by omega)
        have g1 := HW1.out.frozen (j * 2 + 1)
        have hz : IntKind.i64.wrap ((k : Int) + (j : Int) * 2 + 1) = ((k + j * 2 + 1 : Nat) : Int) := by rw [IntWalk.i64_in _ (by omega)]; push_cast; rfl
        clear hb1
        go_wp2
        go_roundw
        case rel =>
          refine ⟨j + 1, _, by omega, by go_num, by go_num, (HW1.out.set (j * 2) _).set (j * 2 + 1) _, HA.out.next HX.out, (HR3.out.trans (Wr.set w1 (p := ⟨g, j * 2, none⟩) hg hgh rfl _)).trans (Wr.set _ (p := ⟨g, j * 2 + 1, none⟩) hg hgh rfl _), grown_trans (grown_trans HB1.out (grown_set _ _ _ _)) (grown_set _ _ _ _)⟩
        case measure => simp [intOf]; omega
      · have hje : j = n := by omega
        subst hje
        go_wp2
        go_ret
        refine ⟨by push_cast; rfl, ⟨⟨_, cap, by rw [marksG_length], by rw [marksG_length]; exact hc, HC.out, fun _ => ⟨g, m, f, rfl, hg, hgh, by rw [marksG_length]; exact hle, HW.out, by rw [marksG_length]; exact HA.out⟩⟩, marksG_fit k j⟩, HR2.out, by rw [rowOf_pos h0]; exact HB.out⟩
theorem markGuessS_x (lo hi k : Nat) (w : World) (v : Value) (x : List GuessM) (h : GuessOwn lo hi w v x) (hs : x.length ≤ 1048576) (hk : k ≤ 10000000000) (hlo : hi ≤ w.heap.size) (hlh : lo ≤ hi) :
    Calls Tryz.prog 15 #[v, .int .i64 k] w fun e w' => e = .returned (.int .i64 ((k + x.length * 2 : Nat) : Int)) ∧ GuessOwn lo hi w' v (marksG k x.length) ∧ Wr lo hi w w' :=
  (markGuessS_any lo hi k w v x.length _ h.1 (by omega) (by omega) (by omega)).mono fun e w' ⟨h1, h2, h3, _⟩ => ⟨h1, h2, h3⟩
set_option maxHeartbeats 2000000 in
theorem heldGuessS_x (w : World) (v : Value) (k : Nat) (x : List GuessM) (h : GuessAt w v (marksG k x.length)) (hs : x.length ≤ 1048576) (hk : k ≤ 1000000000) :
    Calls Tryz.prog 16 #[v, .int .i64 k] w fun e w' => e = .returned (.int .i64 ((k + x.length * 2 : Nat) : Int)) ∧ Below w.heap.size w w' := by
  obtain ⟨a, cap, rfl, hc, hm⟩ := h.form
  rw [marksG_length] at hc h ⊢
  generalize hn : x.length = n at *
  clear hn
  have HS : Hid (GuessAt w (.slice a n cap) (marksG k n)) := h
  clear h
  unfold maxLen at hm
  go_enter Tryz.func16, Tryz.ntmps16
  go_wp2
  go_loopw [1, 5] (fun kv i wr => ∃ (j : Nat), j ≤ n ∧ kv = .int .i64 (k + j * 2) ∧ i = .int .i64 j ∧ Below w.heap.size w wr) (fun _ i _ => n - (intOf i).toNat)
  case atStart => exact ⟨0, Nat.zero_le _, by simp, rfl, Below.refl _ _⟩
  case round =>
    obtain ⟨j, hj, rfl, rfl, hb⟩ := hrel
    have HB0 : Hid (Below w.heap.size w wr) := hb
    clear hb
    by_cases hlt : j < n
    · have i0 : (0 : Int) ≤ (j : Int) := by omega
      have i1 : (j : Int) < (n : Int) := by omega
      obtain ⟨b, off, cap1, s, hv, hbl, hs2, hfit, c0_0, c0_1⟩ := (HS.out.below HB0.out).at (k := j) (by rw [marksG_length]; exact hlt)
      rw [marksG_length] at hv
      cases hv
      rw [marksG_at hlt] at hs2
      cases hs2
      clear hfit
      have hm0 := markT_size (k + j * 2)
      have hz : IntKind.i64.wrap ((k : Int) + (j : Int) * 2 + 1) = ((k + j * 2 + 1 : Nat) : Int) := by rw [IntWalk.i64_in _ (by omega)]; push_cast; rfl
      go_wp2_with fail
      go_region_held3 (fun w' => w'.cell? ⟨b, off + j * 2, none⟩ = some (.string (markT (k + j * 2))) ∧ w'.cell? ⟨b, off + j * 2 + 1, none⟩ = some (.int .i64 ((k + j * 2 + 1 : Nat) : Int))) (go_keep)
        ((go_at_call 42; refine (markText_int _ (k + j * 2) (by push_cast; omega) (by omega) _).mono ?_; rintro e w1 ⟨rfl, hb1⟩; have HB1 : Hid (Below w.heap.size w w1) := HB0.out.drew.trans (hb1.mono HB0.out.size); have c1_0 := (hb1.cell (p := ⟨b, off + j * 2, none⟩) hbl).trans c0_0; have c1_1 := (hb1.cell (p := ⟨b, off + j * 2 + 1, none⟩) hbl).trans c0_1; have hbl1 : b < w1.heap.size := Nat.lt_of_lt_of_le hbl hb1.size; clear hb1 c0_0 c0_1))
      go_wp2
      go_roundw
      case rel => exact ⟨j + 1, by omega, by go_num, by go_num, HB1.out⟩
      case measure => simp [intOf]; omega
    · have hje : j = n := by omega
      subst hje
      go_wp2
      go_ret
      exact ⟨by push_cast; rfl, HB0.out⟩
end Go.Proofs.YthedglgljehmgaaGreatDoor
