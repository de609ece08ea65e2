/-
  Drawn words without one letter; drawn entries; drawn affixes.
-/
import Derived.Test.YthikcililececaaW12
import Derived.Test.YthikcililececaaW29
import Derived.Test.YthikcililececaaW129
namespace Go.Proofs.Ythikcililececaa
open Go.RowKit
set_option linter.unusedVariables false
/-- No byte is 119. -/
def noW (s : ByteArray) : Prop := ∀ b ∈ s.data.toList, b ≠ 119
instance (s : ByteArray) : Decidable (noW s) := by unfold noW; infer_instance
theorem noW_nil : noW ⟨#[]⟩ := by intro b hb; simp at hb
theorem noW.append {a b : ByteArray} (h : noW a) (h' : noW b) : noW (a ++ b) := by
  intro c hc
  simp only [ByteArray.data_append, Array.toList_append, List.mem_append] at hc
  rcases hc with hc | hc
  · exact h c hc
  · exact h' c hc
theorem noW.extract {a : ByteArray} (h : noW a) (i j : Nat) : noW (a.extract i j) := by
  intro c hc
  simp only [ByteArray.data_extract, Array.toList_extract, List.extract_eq_take_drop] at hc
  exact h c (List.mem_of_mem_drop (List.mem_of_mem_take hc))
def DrawnW (s : ByteArray) : Prop := s.size ≤ 20 ∧ noW s
def shortW (m : Nat) : Value → Bool
  | .string s => decide (s.size ≤ m) && decide (noW s)
  | _ => false
theorem lit_textsW (m : Nat) (w : World) (cs : Array Value) (t : TypeId) (h : cs.all (shortW m) = true) : ∀ i, i < cs.size → ∃ s : ByteArray, (w.alloc (.cells cs t)).cell? ⟨w.heap.size, i, none⟩ = some (.string s) ∧ s.size ≤ m ∧ noW s := by
  intro i hi
  rw [cell_of_row _ _ i cs t (0, 0) (heap_alloc_last w _), Array.getElem?_eq_getElem hi]
  have := (Array.all_eq_true.1 h) i hi
  revert this
  generalize cs[i] = v
  intro hv
  unfold shortW at hv
  split at hv
  · next s =>
    simp only [Bool.and_eq_true, decide_eq_true_eq] at hv
    exact ⟨s, rfl, hv⟩
  · cases hv
set_option maxHeartbeats 1000000 in
theorem l13Word_now (w : World) (blk p : Nat) (h : RdAt w blk p) (hp : p ≤ 900000) :
    Calls Try.prog 47 #[.pointer (some ⟨blk, 0, none⟩)] w fun e w' => ∃ s, e = .returned (.string s) ∧ DrawnW s ∧ (∃ q, RdAt w' blk q ∧ q ≤ p + 10) ∧ Kept blk w w' := by
  go_enter Try.func47, Try.ntmps47
  go_wp2_with fail
  refine (pick_any w blk p 3 h (by omega) (by omega)).mono ?_
  rintro e w1 ⟨v, rfl, hv0, hv1, hr1, hk1⟩
  clear hv1
  have HR1 : Hid (RdAt w1 blk (p + 1)) := hr1
  clear hr1
  cases hv : (v == 0) with
  | true =>
    go_wp2_with fail
    refine (pick_any w1 blk (p + 1) 5 HR1.out (by omega) (by omega)).mono ?_
    rintro e w2 ⟨v2, rfl, hv20, hv21, hr2, hk2⟩
    have hv22 : v2 ≤ 4 := by have := hv21 (by omega); omega
    have HR2 : Hid (RdAt w2 blk (p + 2)) := hr2
    clear hr2 hv21
    go_wp2_with fail
    go_loopw [3, 4] (fun o c wr => ∃ (s : ByteArray) (i q : Nat), o = .string s ∧ noW s ∧ c = .int .i64 i ∧ i ≤ 5 ∧ s.size + 2 * i ≤ 10 ∧ RdAt wr blk q ∧ q + i ≤ p + 7 ∧ Kept blk w wr) (fun _ c _ => (intOf c).toNat)
    case atStart =>
      obtain ⟨m, rfl⟩ := Int.eq_ofNat_of_zero_le hv20
      exact ⟨⟨#[]⟩, 1 + m, p + 2, rfl, noW_nil, by go_num, by omega, by simp [ByteArray.size]; omega, HR2.out, by omega, hk1.trans hk2⟩
    case round =>
      obtain ⟨s, i, q, rfl, hnw, rfl, hi, hs, hrq, hq, hkq⟩ := hrel
      have HNW : Hid (noW s) := hnw
      clear hnw
      have HRQ : Hid (RdAt wr blk q) := hrq
      clear hrq
      by_cases h0 : (0 : Int) < (i : Int)
      · go_wp2_with fail
        refine (of_any (fun s => s.size ≤ 2 ∧ noW s) _ blk q _ 5 5 (by exact HRQ.out.alloc _) (by omega) (by omega) (by omega) (by intro i hi; refine lit_textsW 2 _ _ _ ?_ i hi; decide +kernel) (by have := HRQ.out.lt; omega)).mono ?_
        rintro e w3 ⟨s3, rfl, ⟨hs3, hn3⟩, hr3, hk3⟩
        have HN3 : Hid (noW (s ++ s3)) := HNW.out.append hn3
        clear hn3
        have HR3 : Hid (RdAt w3 blk (q + 1)) := hr3
        have HSZ : Hid ((s ++ s3).size = s.size + s3.size) := size_append s s3
        clear hr3
        go_wp2
        go_roundw
        case rel => exact ⟨_, i - 1, q + 1, rfl, HN3.out, by go_num, by omega, by have := HSZ.out; omega, HR3.out, by omega, (hkq.alloc _).trans hk3⟩
        case measure => simp [intOf]; omega
      · go_wp2_with fail
        refine (least_any _ _ _).mono ?_
        rintro e w3 ⟨rfl, rfl⟩
        have hl : ls (s.size : Int) 12 = (s.size : Int) := by have := ls_le (s.size : Int) 12; omega
        rw [hl]
        clear hl
        go_wp2
        go_ret
        exact ⟨_, rfl, ⟨by first | omega | (simp; omega), by first | exact HNW.out | exact HNW.out.extract _ _⟩, ⟨q, HRQ.out, by omega⟩, hkq⟩
  | false =>
    go_wp2_with fail
    refine (of_any (fun s => s.size ≤ 20 ∧ noW s) _ blk (p + 1) _ 15 15 (by exact HR1.out.alloc _) (by omega) (by omega) (by omega) (by intro i hi; refine lit_textsW 20 _ _ _ ?_ i hi; decide +kernel) (by have := HR1.out.lt; omega)).mono ?_
    rintro e w3 ⟨s3, rfl, hs3, hr3, hk3⟩
    have HR3 : Hid (RdAt w3 blk (p + 1 + 1)) := hr3
    clear hr3
    go_wp2
    go_ret
    exact ⟨s3, rfl, hs3, ⟨_, HR3.out, by omega⟩, (hk1.alloc _).trans hk3⟩
theorem lit_texts2 (m : Nat) (w : World) (o : Obj) (cs : Array Value) (t : TypeId) (h : cs.all (shortV m) = true) : ∀ i, i < cs.size → ∃ s : ByteArray, ((w.alloc o).alloc (.cells cs t)).cell? ⟨w.heap.size + 1, i, none⟩ = some (.string s) ∧ s.size ≤ m := by
  intro i hi
  have h1 := lit_texts m (w.alloc o) cs t h i hi
  rw [World.size_alloc] at h1
  exact h1
set_option maxHeartbeats 1000000 in
theorem l13Entry_any (w : World) (blk p : Nat) (st : ByteArray) (h : RdAt w blk p) (hp : p ≤ 900000) :
    Calls Try.prog 24 #[.pointer (some ⟨blk, 0, none⟩), .string st] w fun e w' => ∃ fl, e = .returned (.agg #[.string st, .string fl]) ∧ fl.size ≤ 20 ∧ RdAt w' blk (p + 1) ∧ Kept blk w w' := by
  have hlt := h.lt
  have HR : Hid (RdAt w blk p) := h
  clear h
  have HL : Hid (∀ i, i < 9 → ∃ s : ByteArray, ((w.alloc (.cells #[.string ⟨#[]⟩, .string ⟨#[]⟩] 25)).alloc (.cells #[.string ⟨#[]⟩, .string ⟨#[]⟩, .string ⟨#[83]⟩, .string ⟨#[71, 83]⟩, .string ⟨#[85]⟩, .string ⟨#[71, 85]⟩, .string ⟨#[82]⟩, .string ⟨#[84]⟩, .string ⟨#[67, 82, 83, 85]⟩] 9)).cell? ⟨w.heap.size + 1, i, none⟩ = some (.string s) ∧ s.size ≤ 20) := fun i hi => lit_texts2 20 w (.cells #[.string ⟨#[]⟩, .string ⟨#[]⟩] 25) #[.string ⟨#[]⟩, .string ⟨#[]⟩, .string ⟨#[83]⟩, .string ⟨#[71, 83]⟩, .string ⟨#[85]⟩, .string ⟨#[71, 85]⟩, .string ⟨#[82]⟩, .string ⟨#[84]⟩, .string ⟨#[67, 82, 83, 85]⟩] 9 (by decide +kernel) i hi
  go_enter Try.func24, Try.ntmps24
  go_wp2_with fail
  refine (of_any (fun s => s.size ≤ 20) _ blk p (w.heap.size + 1) 9 9 ((HR.out.alloc _).alloc _) (by omega) (by omega) (by omega) HL.out (by omega)).mono ?_
  rintro e w3 ⟨fl, rfl, hs3, hr3, hk3⟩
  have HR3 : Hid (RdAt w3 blk (p + 1)) := hr3
  have hB : w3.heap[w.heap.size]? = some (.cells #[.string ⟨#[]⟩, .string ⟨#[]⟩] 25 (0, 0)) := (hk3.block w.heap.size (by simp; omega) (by omega)).trans (alloc_first w _ _)
  have c0 : w3.cell? ⟨w.heap.size, 0, none⟩ = some (.string ⟨#[]⟩) := by rw [cell_of_row _ _ 0 _ _ _ hB]; rfl
  have c1 : w3.cell? ⟨w.heap.size, 1, none⟩ = some (.string ⟨#[]⟩) := by rw [cell_of_row _ _ 1 _ _ _ hB]; rfl
  have f0 := Go.Joins.unfrozen_of_block hB 0
  have f1 := Go.Joins.unfrozen_of_block hB 1
  have HK3 : Hid (Kept blk w w3) := (((Kept.refl blk w).alloc _).alloc _).trans hk3
  clear hB hr3 hk3 HL
  go_wp2
  refine bodyPost_ret (v := .agg #[.string st, .string fl]) (by simp [results, Try.results24, go_sem, c0, c1]) rfl ⟨fl, rfl, hs3, ?_, ?_⟩
  · exact (HR3.out.setNew (by omega) _ _).setNew (by omega) _ _
  · exact (HK3.out.setNew (Nat.le_refl _) _ _).setNew (Nat.le_refl _) _ _
end Go.Proofs.Ythikcililececaa
