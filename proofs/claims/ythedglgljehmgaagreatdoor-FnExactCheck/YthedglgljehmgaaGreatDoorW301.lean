/-
  Capital letters made by the specification: a row of bytes that is turned; drawn texts in some case; the law FnCaseOf.
-/
import Derived.Test.YthedglgljehmgaaGreatDoorW300
import Derived.Test.YthedglgljehmgaaGreatDoorW12
import Derived.Lib.SmallJoins
import Derived.Deep.RegionHeld3
namespace Go.Proofs.YthedglgljehmgaaGreatDoor
open Go.RowKit
set_option linter.unusedVariables false
/-- A text with capital letters. -/
def upS (s : ByteArray) : ByteArray := ⟨(upL s.data.toList).toArray⟩
theorem upS_size (s : ByteArray) : (upS s).size = s.size := by
  show (upL s.data.toList).toArray.size = _
  simp [upL]
theorem upS_list (s : ByteArray) : (upS s).data.toList = upL s.data.toList := by simp [upS]
/-- The bytes of a text of which the first k are turned. -/
def upTo (l : List UInt8) (k : Nat) : List UInt8 := upL (l.take k) ++ l.drop k
theorem upTo_length (l : List UInt8) (k : Nat) : (upTo l k).length = l.length := by unfold upTo upL; simp; omega
theorem upTo_zero (l : List UInt8) : upTo l 0 = l := rfl
theorem upTo_all (l : List UInt8) : upTo l l.length = upL l := by simp [upTo]
theorem upTo_at (l : List UInt8) (k : Nat) (h : k < l.length) : (upTo l k)[k]? = some l[k] := by
  unfold upTo upL
  rw [List.getElem?_append_right (by simp; omega)]
  simp [Nat.min_eq_left (Nat.le_of_lt h)]
theorem upTo_set (l : List UInt8) (k : Nat) (h : k < l.length) : upTo l (k + 1) = (upTo l k).set k (upB l[k]) := by
  unfold upTo upL
  have hl : ((l.take k).map upB).length = k := by simp; omega
  rw [List.set_append_right _ _ (by omega), hl, Nat.sub_self, List.take_succ_eq_append_getElem h, List.drop_eq_getElem_cons h, List.set_cons_zero, List.map_append, List.append_assoc]
  rfl
theorem upTo_keep (l : List UInt8) (k : Nat) (h : k < l.length) (hn : upB l[k] = l[k]) : upTo l (k + 1) = upTo l k := by
  rw [upTo_set l k h, hn]
  apply List.ext_getElem? ; intro i
  by_cases e : k = i
  · subst e; rw [upTo_at l k h, List.getElem?_set_self (by rw [upTo_length]; exact h)]
  · rw [List.getElem?_set_ne e]
/-- A row of bytes of one's own, with the mark of a conversion. -/
def BytesRow (w : World) (g : Nat) (l : List UInt8) : Prop := ∃ (c : Array Value) (n : Nat), w.heap[g]? = some (.cells c 5 (n, n + 1)) ∧ c.size = n ∧ l.length ≤ n ∧ ∀ (i : Nat) (b : UInt8), l[i]? = some b → c[i]? = some (.int .u8 (b.toNat : Int))
theorem BytesRow.cell {w : World} {g : Nat} {l : List UInt8} (h : BytesRow w g l) {i : Nat} {b : UInt8} (hi : l[i]? = some b) : w.cell? ⟨g, i, none⟩ = some (.int .u8 (b.toNat : Int)) ∧ w.frozen? ⟨g, i, none⟩ = false := by
  obtain ⟨c, n, hb, hn, hl, hc⟩ := h
  have hlt : i < l.length := (List.getElem?_eq_some_iff.1 hi).1
  constructor
  · simp [World.cell?, hb, hc i b hi]
  · simp [World.frozen?, hb]; omega
theorem BytesRow.set {w : World} {g : Nat} {l : List UInt8} (h : BytesRow w g l) (k : Nat) (b : UInt8) : BytesRow (w.setCell ⟨g, k, none⟩ (.int .u8 (b.toNat : Int))) g (l.set k b) := by
  obtain ⟨c, n, hb, hn, hl, hc⟩ := h
  refine ⟨_, n, Go.Joins.block_setCell hb _, by simpa using hn, by simpa using hl, fun i x hx => ?_⟩
  rw [Array.getElem?_setIfInBounds]
  by_cases e : k = i
  · subst e
    have hlt : k < l.length := by have := (List.getElem?_eq_some_iff.1 hx).1; simpa using this
    rw [List.getElem?_set_self hlt] at hx
    cases hx
    rw [if_pos rfl, if_pos (by omega)]
  · rw [if_neg e]
    rw [List.getElem?_set_ne e] at hx
    exact hc i x hx
theorem BytesRow.lt {w : World} {g : Nat} {l : List UInt8} (h : BytesRow w g l) : g < w.heap.size := by
  obtain ⟨c, n, hb, _⟩ := h
  exact (Array.getElem?_eq_some_iff.1 hb).1
theorem bytesRow_new (w : World) (s : ByteArray) : BytesRow (Lib.bytesWorld w 5 s) w.heap.size s.data.toList := by
  refine ⟨_, _, Lib.bytesWorld_at_new w _ s, rfl, ?_, fun i b hb => ?_⟩
  · simp [Lib.bytesCells]
  · have hlt : i < s.data.toList.length := (List.getElem?_eq_some_iff.1 hb).1
    unfold Lib.bytesCells
    rw [Array.getElem?_append_left (by simpa using hlt), Array.getElem?_map]
    rw [Array.getElem?_toList] at hb
    rw [hb]; rfl
theorem below_bytes (w : World) (s : ByteArray) : Below w.heap.size w (Lib.bytesWorld w 5 s) :=
  ⟨rfl, rfl, rfl, by rw [Lib.bytesWorld_size]; omega, fun k hk => Lib.bytesWorld_at_old w _ s k hk⟩
theorem ret_str {a b : ByteArray} (h : a = b) : Ending.returned (.string a) = .returned (.string b) := by rw [h]
/-- Texts of so many bytes at least and at most. -/
def rangeV (lo m : Nat) : Value → Bool
  | .string s => decide (lo ≤ s.size) && decide (s.size ≤ m)
  | _ => false
theorem lit_range (lo m : Nat) (w : World) (cs : Array Value) (t : TypeId) (h : cs.all (rangeV lo m) = true) : ∀ i, i < cs.size → ∃ s : ByteArray, (w.alloc (.cells cs t)).cell? ⟨w.heap.size, i, none⟩ = some (.string s) ∧ (lo ≤ s.size ∧ s.size ≤ m) := by
  intro i hi
  rw [cell_of_row _ _ i cs t (0, 0) (heap_alloc_last w _), Array.getElem?_eq_getElem hi]
  have := (Array.all_eq_true.1 h) i hi
  revert this
  generalize cs[i] = v
  intro hv
  unfold rangeV at hv
  split at hv
  · next s => exact ⟨s, rfl, by simpa using hv⟩
  · cases hv
set_option maxHeartbeats 1000000 in
/-- A drawn word has a letter. -/
theorem l13Word_pos (w : World) (blk p : Nat) (h : RdAt w blk p) (hp : p ≤ 900000) :
    Calls Tryz.prog 22 #[.pointer (some ⟨blk, 0, none⟩)] w fun e w' => ∃ s, e = .returned (.string s) ∧ 1 ≤ s.size ∧ s.size ≤ 20 ∧ (∃ q, RdAt w' blk q ∧ q ≤ p + 10) ∧ Kept blk w w' := by
  go_enter Tryz.func22, Tryz.ntmps22
  go_wp2_with fail
  refine (pick_any w blk p 3 h (by omega) (by omega)).mono ?_
  rintro e w1 ⟨v, rfl, hv0, hv1, hr1, hk1⟩
  clear hv1
  have HR1 : Hid (RdAt w1 blk (p + 1)) := hr1
  clear hr1
  cases hv : (v == 0) with
  | true =>
    go_wp2_with fail
    refine (pick_any w1 blk (p + 1) 5 HR1.out (by omega) (by omega)).mono ?_
    rintro e w2 ⟨v2, rfl, hv20, hv21, hr2, hk2⟩
    have hv22 : v2 ≤ 4 := by have := hv21 (by omega); omega
    have HR2 : Hid (RdAt w2 blk (p + 2)) := hr2
    clear hr2 hv21
    go_wp2_with fail
    go_loopw [3, 4] (fun o c wr => ∃ (s : ByteArray) (i q : Nat), o = .string s ∧ c = .int .i64 i ∧ i ≤ 5 ∧ s.size + 2 * i ≤ 10 ∧ 1 ≤ s.size + i ∧ RdAt wr blk q ∧ q + i ≤ p + 7 ∧ Kept blk w wr) (fun _ c _ => (intOf c).toNat)
    case atStart =>
      obtain ⟨m, rfl⟩ := Int.eq_ofNat_of_zero_le hv20
      exact ⟨⟨#[]⟩, 1 + m, p + 2, rfl, by go_num, by omega, by simp [ByteArray.size]; omega, by omega, HR2.out, by omega, hk1.trans hk2⟩
    case round =>
      obtain ⟨s, i, q, rfl, rfl, hi, hs, hpos, hrq, hq, hkq⟩ := hrel
      have HRQ : Hid (RdAt wr blk q) := hrq
      clear hrq
      by_cases h0 : (0 : Int) < (i : Int)
      · go_wp2_with fail
        refine (of_any (fun s => 1 ≤ s.size ∧ s.size ≤ 2) _ blk q _ 5 5 (by exact HRQ.out.alloc _) (by omega) (by omega) (by omega) (by intro i hi; refine lit_range 1 2 _ _ _ ?_ i hi; decide +kernel) (by have := HRQ.out.lt; omega)).mono ?_
        rintro e w3 ⟨s3, rfl, ⟨hs31, hs3⟩, hr3, hk3⟩
        have HR3 : Hid (RdAt w3 blk (q + 1)) := hr3
        have HSZ : Hid ((s ++ s3).size = s.size + s3.size) := size_append s s3
        clear hr3
        go_wp2
        go_roundw
        case rel => exact ⟨_, i - 1, q + 1, rfl, by go_num, by omega, by have := HSZ.out; omega, by have := HSZ.out; omega, HR3.out, by omega, (hkq.alloc _).trans hk3⟩
        case measure => simp [intOf]; omega
      · go_wp2_with fail
        refine (least_any _ _ _).mono ?_
        rintro e w3 ⟨rfl, rfl⟩
        have hl : ls (s.size : Int) 12 = (s.size : Int) := by have := ls_le (s.size : Int) 12; omega
        rw [hl]
        clear hl
        go_wp2
        go_ret
        refine ⟨_, rfl, ?_, ?_, ⟨q, HRQ.out, by omega⟩, hkq⟩
        · first | omega | (simp; omega)
        · first | omega | (simp; omega)
  | false =>
    go_wp2_with fail
    refine (of_any (fun s => 1 ≤ s.size ∧ s.size ≤ 20) _ blk (p + 1) _ 15 15 (by exact HR1.out.alloc _) (by omega) (by omega) (by omega) (by intro i hi; refine lit_range 1 20 _ _ _ ?_ i hi; decide +kernel) (by have := HR1.out.lt; omega)).mono ?_
    rintro e w3 ⟨s3, rfl, ⟨hs31, hs3⟩, hr3, hk3⟩
    have HR3 : Hid (RdAt w3 blk (p + 1 + 1)) := hr3
    clear hr3
    go_wp2
    go_ret
    exact ⟨s3, rfl, hs31, hs3, ⟨_, HR3.out, by omega⟩, (hk1.alloc _).trans hk3⟩
end Go.Proofs.YthedglgljehmgaaGreatDoor
