/-
  Capital letters made by the specification: a row of bytes that is turned; drawn texts in some case; the law FnCaseOf.
-/
import Derived.Test.YtelogmffgepfdaaDoorW300
import Derived.Test.YtelogmffgepfdaaDoorW12
import Derived.Lib.SmallJoins
import Derived.Deep.RegionHeld3
namespace Go.Proofs.YtelogmffgepfdaaDoor
open Go.RowKit
set_option linter.unusedVariables false
/-- A text with capital letters. -/
def upS (s : ByteArray) : ByteArray := ⟨(upL s.data.toList).toArray⟩
theorem upS_size (s : ByteArray) : (upS s).size = s.size := by
  show (upL s.data.toList).toArray.size = _
  simp [upL]
theorem upS_list (s : ByteArray) : (upS s).data.toList = upL s.data.toList := by simp [upS]
/-- The bytes of a text of which the first k are turned. -/
def upTo (l : List UInt8) (k : Nat) : List UInt8 := upL (l.take k) ++ l.drop k
theorem upTo_length (l : List UInt8) (k : Nat) : (upTo l k).length = l.length := by unfold upTo upL; simp; omega
theorem upTo_zero (l : List UInt8) : upTo l 0 = l := rfl
theorem upTo_all (l : List UInt8) : upTo l l.length = upL l := by simp [upTo]
theorem upTo_at (l : List UInt8) (k : Nat) (h : k < l.length) : (upTo l k)[k]? = some l[k] := by
  unfold upTo upL
  rw [List.getElem?_append_right (by simp; omega)]
  simp [Nat.min_eq_left (Nat.le_of_lt h)]
theorem upTo_set (l : List UInt8) (k : Nat) (h : k < l.length) : upTo l (k + 1) = (upTo l k).set k (upB l[k]) := by
  unfold upTo upL
  have hl : ((l.take k).map upB).length = k := by simp; omega
  rw [List.set_append_right _ _ (by omega), hl, Nat.sub_self, List.take_succ_eq_append_getElem h, List.drop_eq_getElem_cons h, List.set_cons_zero, List.map_append, List.append_assoc]
  rfl
theorem upTo_keep (l : List UInt8) (k : Nat) (h : k < l.length) (hn : upB l[k] = l[k]) : upTo l (k + 1) = upTo l k := by
  rw [upTo_set l k h, hn]
  apply List.ext_getElem? ; intro i
  by_cases e : k = i
  · subst e; rw [upTo_at l k h, List.getElem?_set_self (by rw [upTo_length]; exact h)]
  · rw [List.getElem?_set_ne e]
/-- A row of bytes of one's own, with the mark of a conversion. -/
def BytesRow (w : World) (g : Nat) (l : List UInt8) : Prop := ∃ (c : Array Value) (n : Nat), w.heap[g]? = some (.cells c 5 (n, n + 1)) ∧ c.size = n ∧ l.length ≤ n ∧ ∀ (i : Nat) (b : UInt8), l[i]? = some b → c[i]? = some (.int .u8 (b.toNat : Int))
theorem BytesRow.cell {w : World} {g : Nat} {l : List UInt8} (h : BytesRow w g l) {i : Nat} {b : UInt8} (hi : l[i]? = some b) : w.cell? ⟨g, i, none⟩ = some (.int .u8 (b.toNat : Int)) ∧ w.frozen? ⟨g, i, none⟩ = false := by
  obtain ⟨c, n, hb, hn, hl, hc⟩ := h
  have hlt : i < l.length := (List.getElem?_eq_some_iff.1 hi).1
  constructor
  · simp [World.cell?, hb, hc i b hi]
  · simp [World.frozen?, hb]; omega
theorem BytesRow.set {w : World} {g : Nat} {l : List UInt8} (h : BytesRow w g l) (k : Nat) (b : UInt8) : BytesRow (w.setCell ⟨g, k, none⟩ (.int .u8 (b.toNat : Int))) g (l.set k b) := by
  obtain ⟨c, n, hb, hn, hl, hc⟩ := h
  refine ⟨_, n, Go.Joins.block_setCell hb _, by simpa using hn, by simpa using hl, fun i x hx => ?_⟩
  rw [Array.getElem?_setIfInBounds]
  by_cases e : k = i
  · subst e
    have hlt : k < l.length := by have := (List.getElem?_eq_some_iff.1 hx).1; simpa using this
    rw [List.getElem?_set_self hlt] at hx
    cases hx
    rw [if_pos rfl, if_pos (by omega)]
  · rw [if_neg e]
    rw [List.getElem?_set_ne e] at hx
    exact hc i x hx
theorem BytesRow.lt {w : World} {g : Nat} {l : List UInt8} (h : BytesRow w g l) : g < w.heap.size := by
  obtain ⟨c, n, hb, _⟩ := h
  exact (Array.getElem?_eq_some_iff.1 hb).1
theorem bytesRow_new (w : World) (s : ByteArray) : BytesRow (Lib.bytesWorld w 5 s) w.heap.size s.data.toList := by
  refine ⟨_, _, Lib.bytesWorld_at_new w _ s, rfl, ?_, fun i b hb => ?_⟩
  · simp [Lib.bytesCells]
  · have hlt : i < s.data.toList.length := (List.getElem?_eq_some_iff.1 hb).1
    unfold Lib.bytesCells
    rw [Array.getElem?_append_left (by simpa using hlt), Array.getElem?_map]
    rw [Array.getElem?_toList] at hb
    rw [hb]; rfl
theorem below_bytes (w : World) (s : ByteArray) : Below w.heap.size w (Lib.bytesWorld w 5 s) :=
  ⟨rfl, rfl, rfl, by rw [Lib.bytesWorld_size]; omega, fun k hk => Lib.bytesWorld_at_old w _ s k hk⟩
theorem ret_str {a b : ByteArray} (h : a = b) : Ending.returned (.string a) = .returned (.string b) := by rw [h]
set_option maxHeartbeats 1000000 in
theorem l10Upper_any (s : ByteArray) (w : World) (hs : s.size ≤ maxLen) :
    Calls Tryd.prog 17 #[.string s] w fun e w' => e = .returned (.string (upS s)) ∧ Below w.heap.size w w' := by
  unfold maxLen at hs
  have hcv := fun w' : World => Lib.run_convert_string_bytes (P := Tryd.prog) w' 9 22 5 s Tryd.underlying9 Tryd.underlying22 Tryd.underlying5
  have HR0 : Hid (BytesRow (Lib.bytesWorld w 5 s) w.heap.size s.data.toList) := bytesRow_new w s
  have HB0 : Hid (Below w.heap.size w (Lib.bytesWorld w 5 s)) := below_bytes w s
  obtain ⟨W0, hW0⟩ : ∃ W0, Lib.bytesWorld w 5 s = W0 := ⟨_, rfl⟩
  have hcw := hcv w
  rw [hW0] at HR0 HB0 hcw
  clear hcv hW0
  generalize grownCap w s.size 0 5 = cap at hcw
  go_enter Tryd.func17, Tryd.ntmps17
  go_wp2
  go_loopw [4] (fun i wr => ∃ k : Nat, k ≤ s.size ∧ i = .int .i64 k ∧ BytesRow wr w.heap.size (upTo s.data.toList k) ∧ Below w.heap.size w wr) (fun i _ => s.size - (intOf i).toNat)
  case atStart => exact ⟨0, Nat.zero_le _, rfl, HR0.out, HB0.out⟩
  case round =>
    obtain ⟨k, hk, rfl, hrow, hb⟩ := hrel
    have HR : Hid (BytesRow wr w.heap.size (upTo s.data.toList k)) := hrow
    have HB : Hid (Below w.heap.size w wr) := hb
    clear hrow hb hcw
    by_cases hlt : k < s.size
    · have hlt' : k < s.data.toList.length := hlt
      have hc := HR.out.cell (upTo_at s.data.toList k hlt')
      have d0 := hc.1
      have g0 := hc.2
      have HW : Hid (w.heap.size < wr.heap.size) := HR.out.lt
      have hbl : w.heap.size < wr.heap.size := HR.out.lt
      clear hc
      obtain ⟨c, hcq⟩ : ∃ c : UInt8, s.data.toList[k] = c := ⟨_, rfl⟩
      rw [hcq] at d0
      have HST : Hid (upTo s.data.toList (k + 1) = (upTo s.data.toList k).set k (upB c)) := by
        have := upTo_set s.data.toList k hlt'
        rw [hcq] at this
        exact this
      have HKP : Hid (upB c = c → upTo s.data.toList (k + 1) = upTo s.data.toList k) := by
        intro h
        exact upTo_keep s.data.toList k hlt' (by rw [hcq]; exact h)
      clear hcq
      by_cases h1 : (97 : Int) ≤ (c.toNat : Int)
      · by_cases h2 : (c.toNat : Int) ≤ 122
        · have HU : Hid (((upB c).toNat : Int) = (c.toNat : Int) - 32) := by
            have := upB_nat c (by omega)
            show ((upB c).toNat : Int) = _
            omega
          have hw : IntKind.u8.wrap ((c.toNat : Int) - 32) = (c.toNat : Int) - 32 := by simp [IntKind.wrap, IntKind.bits, IntKind.signed]; omega
          go_wp2
          go_roundw
          case rel =>
            refine ⟨k + 1, by omega, by go_num, ?_, HB.out.setCell (Nat.le_refl _) _⟩
            rw [HST.out, ← HU.out]
            exact HR.out.set k _
          case measure => simp [intOf]; omega
        · have HKQ : Hid (upTo s.data.toList (k + 1) = upTo s.data.toList k) := HKP.out (upB_else c (by omega))
          go_wp2
          go_roundw
          case rel => exact ⟨k + 1, by omega, by go_num, by rw [HKQ.out]; exact HR.out, HB.out⟩
          case measure => simp [intOf]; omega
      · have HKQ : Hid (upTo s.data.toList (k + 1) = upTo s.data.toList k) := HKP.out (upB_else c (by omega))
        go_wp2
        go_roundw
        case rel => exact ⟨k + 1, by omega, by go_num, by rw [HKQ.out]; exact HR.out, HB.out⟩
        case measure => simp [intOf]; omega
    · have hk2 : k = s.data.toList.length := by have : s.data.toList.length = s.size := rfl; omega
      have hu : upTo s.data.toList k = upL s.data.toList := by rw [hk2, upTo_all]
      rw [hu] at HR
      have hul : (upL s.data.toList).length = s.size := by simp [upL]
      have hcv := run_convert_bytes_back (P := Tryd.prog) wr 22 9 5 ⟨w.heap.size, 0, none⟩ cap (upL s.data.toList) Tryd.underlying22 Tryd.underlying5 Tryd.underlying9 (fun j hj => by rw [add_at, Nat.zero_add]; exact (HR.out.cell (List.getElem?_eq_getElem hj)).1)
      rw [hul] at hcv
      go_wp2
      go_ret
      exact ⟨ret_str rfl, HB.out⟩
/-- Texts of so many bytes at least and at most. -/
def rangeV (lo m : Nat) : Value → Bool
  | .string s => decide (lo ≤ s.size) && decide (s.size ≤ m)
  | _ => false
theorem lit_range (lo m : Nat) (w : World) (cs : Array Value) (t : TypeId) (h : cs.all (rangeV lo m) = true) : ∀ i, i < cs.size → ∃ s : ByteArray, (w.alloc (.cells cs t)).cell? ⟨w.heap.size, i, none⟩ = some (.string s) ∧ (lo ≤ s.size ∧ s.size ≤ m) := by
  intro i hi
  rw [cell_of_row _ _ i cs t (0, 0) (heap_alloc_last w _), Array.getElem?_eq_getElem hi]
  have := (Array.all_eq_true.1 h) i hi
  revert this
  generalize cs[i] = v
  intro hv
  unfold rangeV at hv
  split at hv
  · next s => exact ⟨s, rfl, by simpa using hv⟩
  · cases hv
set_option maxHeartbeats 1000000 in
/-- A drawn word has a letter. -/
theorem l13Word_pos (w : World) (blk p : Nat) (h : RdAt w blk p) (hp : p ≤ 900000) :
    Calls Tryd.prog 20 #[.pointer (some ⟨blk, 0, none⟩)] w fun e w' => ∃ s, e = .returned (.string s) ∧ 1 ≤ s.size ∧ s.size ≤ 20 ∧ (∃ q, RdAt w' blk q ∧ q ≤ p + 10) ∧ Kept blk w w' := by
  go_enter Tryd.func20, Tryd.ntmps20
  go_wp2_with fail
  refine (pick_any w blk p 3 h (by omega) (by omega)).mono ?_
  rintro e w1 ⟨v, rfl, hv0, hv1, hr1, hk1⟩
  clear hv1
  have HR1 : Hid (RdAt w1 blk (p + 1)) := hr1
  clear hr1
  cases hv : (v == 0) with
  | true =>
    go_wp2_with fail
    refine (pick_any w1 blk (p + 1) 5 HR1.out (by omega) (by omega)).mono ?_
    rintro e w2 ⟨v2, rfl, hv20, hv21, hr2, hk2⟩
    have hv22 : v2 ≤ 4 := by have := hv21 (by omega); omega
    have HR2 : Hid (RdAt w2 blk (p + 2)) := hr2
    clear hr2 hv21
    go_wp2_with fail
    go_loopw [3, 4] (fun o c wr => ∃ (s : ByteArray) (i q : Nat), o = .string s ∧ c = .int .i64 i ∧ i ≤ 5 ∧ s.size + 2 * i ≤ 10 ∧ 1 ≤ s.size + i ∧ RdAt wr blk q ∧ q + i ≤ p + 7 ∧ Kept blk w wr) (fun _ c _ => (intOf c).toNat)
    case atStart =>
      obtain ⟨m, rfl⟩ := Int.eq_ofNat_of_zero_le hv20
      exact ⟨⟨#[]⟩, 1 + m, p + 2, rfl, by go_num, by omega, by simp [ByteArray.size]; omega, by omega, HR2.out, by omega, hk1.trans hk2⟩
    case round =>
      obtain ⟨s, i, q, rfl, rfl, hi, hs, hpos, hrq, hq, hkq⟩ := hrel
      have HRQ : Hid (RdAt wr blk q) := hrq
      clear hrq
      by_cases h0 : (0 : Int) < (i : Int)
      · go_wp2_with fail
        refine (of_any (fun s => 1 ≤ s.size ∧ s.size ≤ 2) _ blk q _ 5 5 (by exact HRQ.out.alloc _) (by omega) (by omega) (by omega) (by intro i hi; refine lit_range 1 2 _ _ _ ?_ i hi; decide +kernel) (by have := HRQ.out.lt; omega)).mono ?_
        rintro e w3 ⟨s3, rfl, ⟨hs31, hs3⟩, hr3, hk3⟩
        have HR3 : Hid (RdAt w3 blk (q + 1)) := hr3
        have HSZ : Hid ((s ++ s3).size = s.size + s3.size) := size_append s s3
        clear hr3
        go_wp2
        go_roundw
        case rel => exact ⟨_, i - 1, q + 1, rfl, by go_num, by omega, by have := HSZ.out; omega, by have := HSZ.out; omega, HR3.out, by omega, (hkq.alloc _).trans hk3⟩
        case measure => simp [intOf]; omega
      · go_wp2_with fail
        refine (least_any _ _ _).mono ?_
        rintro e w3 ⟨rfl, rfl⟩
        have hl : ls (s.size : Int) 12 = (s.size : Int) := by have := ls_le (s.size : Int) 12; omega
        rw [hl]
        clear hl
        go_wp2
        go_ret
        refine ⟨_, rfl, ?_, ?_, ⟨q, HRQ.out, by omega⟩, hkq⟩
        · first | omega | (simp; omega)
        · first | omega | (simp; omega)
  | false =>
    go_wp2_with fail
    refine (of_any (fun s => 1 ≤ s.size ∧ s.size ≤ 20) _ blk (p + 1) _ 15 15 (by exact HR1.out.alloc _) (by omega) (by omega) (by omega) (by intro i hi; refine lit_range 1 20 _ _ _ ?_ i hi; decide +kernel) (by have := HR1.out.lt; omega)).mono ?_
    rintro e w3 ⟨s3, rfl, ⟨hs31, hs3⟩, hr3, hk3⟩
    have HR3 : Hid (RdAt w3 blk (p + 1 + 1)) := hr3
    clear hr3
    go_wp2
    go_ret
    exact ⟨s3, rfl, hs31, hs3, ⟨_, HR3.out, by omega⟩, (hk1.alloc _).trans hk3⟩
set_option maxHeartbeats 1000000 in
theorem l13Case_any (w : World) (blk p : Nat) (h : RdAt w blk p) (hp : p ≤ 800000) :
    Calls Tryd.prog 11 #[.pointer (some ⟨blk, 0, none⟩)] w fun e w' => ∃ s, e = .returned (.string s) ∧ s.size ≤ 21 ∧ Kept blk w w' := by
  go_enter Tryd.func11, Tryd.ntmps11
  go_wp2_with fail
  refine (l13Word_pos w blk p h (by omega)).mono ?_
  rintro e w1 ⟨s, rfl, hs1, hs2, ⟨q, hr1, hq⟩, hk1⟩
  have HR1 : Hid (RdAt w1 blk q) := hr1
  clear hr1
  go_wp2_with fail
  refine (pick_any w1 blk q 6 HR1.out (by omega) (by omega)).mono ?_
  rintro e w2 ⟨v, rfl, hv0, hv1, hr2, hk2⟩
  have HR2 : Hid (RdAt w2 blk (q + 1)) := hr2
  have HK2 : Hid (Kept blk w w2) := hk1.trans hk2
  clear hr2 hv1 hk1 hk2
  by_cases e0 : v = 0
  · subst e0
    go_wp2_with (go_at_call 17; refine (l10Upper_any s _ (by unfold maxLen; omega)).mono ?_; rintro e w3 ⟨rfl, hb3⟩)
    go_ret
    exact ⟨_, rfl, by rw [upS_size]; omega, HK2.out.trans (Kept.of_below hb3)⟩
  by_cases e1 : v = 1
  · subst e1
    have hs1i : (1 : Int) ≤ (s.size : Int) := by omega
    have hx1 : (upS (s.extract 0 1)).size = 1 := by rw [upS_size]; simp; omega
    have hx2 : (s.extract 1 s.size).size = s.size - 1 := by simp
    have HJ : Hid ((upS (s.extract 0 1) ++ s.extract 1 s.size).size = s.size) := by
      show ByteArray.size _ = _
      rw [size_append, hx1, hx2]; omega
    obtain ⟨RT, hRT⟩ : ∃ RT, upS (s.extract 0 1) ++ s.extract 1 s.size = RT := ⟨_, rfl⟩
    rw [hRT] at HJ
    have r1 : ∀ w : World, (Op.stringOp .add (upS (s.extract 0 1)) (s.extract 1 s.size)).run Tryd.prog w = .ok (.string RT) w := fun w => by rw [run_string_add_sum w _ _ (by rw [hx1, hx2]; omega), hRT]
    clear hx1 hx2 hRT
    go_wp2_with fail
    go_region_held3 (fun w' => True) (trivial) (first | (go_at_call 17; refine (l10Upper_any (s.extract 0 1) _ (by unfold maxLen; simp; omega)).mono ?_; rintro e w3 ⟨rfl, hb3⟩))
    all_goals
      go_wp2_with fail
      go_ret
      exact ⟨_, rfl, by have := HJ.out; omega, HK2.out.trans (Kept.of_below ((Below.refl _ _).drew.trans hb3))⟩
  by_cases e2 : v = 2
  · subst e2
    have HJ : Hid ((s ++ ⟨#[88]⟩ : ByteArray).size = s.size + 1) := size_append _ _
    go_wp2_with fail
    go_ret
    exact ⟨_, rfl, by have := HJ.out; omega, HK2.out⟩
  by_cases e3 : v = 3
  · subst e3
    go_wp2_with fail
    refine (of_any (fun s => s.size ≤ 20) _ blk (q + 1) _ 5 5 (by exact HR2.out.alloc _) (by omega) (by omega) (by omega) (by intro i hi; refine lit_texts 20 _ _ _ ?_ i hi; decide +kernel) (by have := HR2.out.lt; omega)).mono ?_
    rintro e w3 ⟨s3, rfl, hs3, hr3, hk3⟩
    clear hr3
    go_wp2_with fail
    go_ret
    exact ⟨s3, rfl, by omega, (HK2.out.alloc _).trans hk3⟩
  · go_wp2_with fail
    go_ret
    exact ⟨s, rfl, by omega, HK2.out⟩
end Go.Proofs.YtelogmffgepfdaaDoor
