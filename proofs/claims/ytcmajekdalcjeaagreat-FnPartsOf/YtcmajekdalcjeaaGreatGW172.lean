/-
  Drawn words without one letter; drawn entries; drawn affixes.
-/
import Derived.Test.YtcmajekdalcjeaaGreatGW9
import Derived.Test.YtcmajekdalcjeaaGreatGW30
import Derived.Test.YtcmajekdalcjeaaGreatW129
import Derived.Test.YtcmajekdalcjeaaGreatW70
import Derived.Deep.QuietTactic
import Derived.BigQuiet
namespace Go.Proofs.YtcmajekdalcjeaaGreat
open Go.RowKit
set_option linter.unusedVariables false
/-- No byte is 119. -/
def noW (s : ByteArray) : Prop := ∀ b ∈ s.data.toList, b ≠ 119
instance (s : ByteArray) : Decidable (noW s) := by unfold noW; infer_instance
theorem noW_nil : noW ⟨#[]⟩ := by intro b hb; simp at hb
theorem noW.append {a b : ByteArray} (h : noW a) (h' : noW b) : noW (a ++ b) := by
  intro c hc
  simp only [ByteArray.data_append, Array.toList_append, List.mem_append] at hc
  rcases hc with hc | hc
  · exact h c hc
  · exact h' c hc
theorem noW.extract {a : ByteArray} (h : noW a) (i j : Nat) : noW (a.extract i j) := by
  intro c hc
  simp only [ByteArray.data_extract, Array.toList_extract, List.extract_eq_take_drop] at hc
  exact h c (List.mem_of_mem_drop (List.mem_of_mem_take hc))
def DrawnW (s : ByteArray) : Prop := s.size ≤ 20 ∧ noW s
def shortW (m : Nat) : Value → Bool
  | .string s => decide (s.size ≤ m) && decide (noW s)
  | _ => false
theorem lit_textsW (m : Nat) (w : World) (cs : Array Value) (t : TypeId) (h : cs.all (shortW m) = true) : ∀ i, i < cs.size → ∃ s : ByteArray, (w.alloc (.cells cs t)).cell? ⟨w.heap.size, i, none⟩ = some (.string s) ∧ s.size ≤ m ∧ noW s := by
  intro i hi
  rw [cell_of_row _ _ i cs t (0, 0) (heap_alloc_last w _), Array.getElem?_eq_getElem hi]
  have := (Array.all_eq_true.1 h) i hi
  revert this
  generalize cs[i] = v
  intro hv
  unfold shortW at hv
  split at hv
  · next s =>
    simp only [Bool.and_eq_true, decide_eq_true_eq] at hv
    exact ⟨s, rfl, hv⟩
  · cases hv
set_option maxHeartbeats 1000000 in
theorem l13Word_now (w : World) (blk p : Nat) (h : RdAt w blk p) (hp : p ≤ 900000) :
    Calls Tryz.prog 59 #[.pointer (some ⟨blk, 0, none⟩)] w fun e w' => ∃ s, e = .returned (.string s) ∧ DrawnW s ∧ (∃ q, RdAt w' blk q ∧ q ≤ p + 10) ∧ Kept blk w w' := by
  go_enter Tryz.func59, Tryz.ntmps59
  go_wp2_with fail
  refine (pick_any w blk p 3 h (by omega) (by omega)).mono ?_
  rintro e w1 ⟨v, rfl, hv0, hv1, hr1, hk1⟩
  clear hv1
  have HR1 : Hid (RdAt w1 blk (p + 1)) := hr1
  clear hr1
  cases hv : (v == 0) with
  | true =>
    go_wp2_with fail
    refine (pick_any w1 blk (p + 1) 5 HR1.out (by omega) (by omega)).mono ?_
    rintro e w2 ⟨v2, rfl, hv20, hv21, hr2, hk2⟩
    have hv22 : v2 ≤ 4 := by have := hv21 (by omega); omega
    have HR2 : Hid (RdAt w2 blk (p + 2)) := hr2
    clear hr2 hv21
    go_wp2_with fail
    go_loopw [3, 4] (fun o c wr => ∃ (s : ByteArray) (i q : Nat), o = .string s ∧ noW s ∧ c = .int .i64 i ∧ i ≤ 5 ∧ s.size + 2 * i ≤ 10 ∧ RdAt wr blk q ∧ q + i ≤ p + 7 ∧ Kept blk w wr) (fun _ c _ => (intOf c).toNat)
    case atStart =>
      obtain ⟨m, rfl⟩ := Int.eq_ofNat_of_zero_le hv20
      exact ⟨⟨#[]⟩, 1 + m, p + 2, rfl, noW_nil, by go_num, by omega, by simp [ByteArray.size]; omega, HR2.out, by omega, hk1.trans hk2⟩
    case round =>
      obtain ⟨s, i, q, rfl, hnw, rfl, hi, hs, hrq, hq, hkq⟩ := hrel
      have HNW : Hid (noW s) := hnw
      clear hnw
      have HRQ : Hid (RdAt wr blk q) := hrq
      clear hrq
      by_cases h0 : (0 : Int) < (i : Int)
      · go_wp2_with fail
        refine (of_any (fun s => s.size ≤ 2 ∧ noW s) _ blk q _ 5 5 (by exact HRQ.out.alloc _) (by omega) (by omega) (by omega) (by intro i hi; refine lit_textsW 2 _ _ _ ?_ i hi; decide +kernel) (by have := HRQ.out.lt; omega)).mono ?_
        rintro e w3 ⟨s3, rfl, ⟨hs3, hn3⟩, hr3, hk3⟩
        have HN3 : Hid (noW (s ++ s3)) := HNW.out.append hn3
        clear hn3
        have HR3 : Hid (RdAt w3 blk (q + 1)) := hr3
        have HSZ : Hid ((s ++ s3).size = s.size + s3.size) := size_append s s3
        clear hr3
        go_wp2
        go_roundw
        case rel => exact ⟨_, i - 1, q + 1, rfl, HN3.out, by go_num, by omega, by have := HSZ.out; omega, HR3.out, by omega, (hkq.alloc _).trans hk3⟩
        case measure => simp [intOf]; omega
      · go_wp2_with fail
        refine (least_any _ _ _).mono ?_
        rintro e w3 ⟨rfl, rfl⟩
        have hl : ls (s.size : Int) 12 = (s.size : Int) := by have := ls_le (s.size : Int) 12; omega
        rw [hl]
        clear hl
        go_wp2
        go_ret
        exact ⟨_, rfl, ⟨by first | omega | (simp; omega), by first | exact HNW.out | exact HNW.out.extract _ _⟩, ⟨q, HRQ.out, by omega⟩, hkq⟩
  | false =>
    go_wp2_with fail
    refine (of_any (fun s => s.size ≤ 20 ∧ noW s) _ blk (p + 1) _ 15 15 (by exact HR1.out.alloc _) (by omega) (by omega) (by omega) (by intro i hi; refine lit_textsW 20 _ _ _ ?_ i hi; decide +kernel) (by have := HR1.out.lt; omega)).mono ?_
    rintro e w3 ⟨s3, rfl, hs3, hr3, hk3⟩
    have HR3 : Hid (RdAt w3 blk (p + 1 + 1)) := hr3
    clear hr3
    go_wp2
    go_ret
    exact ⟨s3, rfl, hs3, ⟨_, HR3.out, by omega⟩, (hk1.alloc _).trans hk3⟩
theorem lit_texts2 (m : Nat) (w : World) (o : Obj) (cs : Array Value) (t : TypeId) (h : cs.all (shortV m) = true) : ∀ i, i < cs.size → ∃ s : ByteArray, ((w.alloc o).alloc (.cells cs t)).cell? ⟨w.heap.size + 1, i, none⟩ = some (.string s) ∧ s.size ≤ m := by
  intro i hi
  have h1 := lit_texts m (w.alloc o) cs t h i hi
  rw [World.size_alloc] at h1
  exact h1
set_option maxHeartbeats 1000000 in
theorem l13Entry_any (w : World) (blk p : Nat) (st : ByteArray) (h : RdAt w blk p) (hp : p ≤ 900000) :
    Calls Tryz.prog 60 #[.pointer (some ⟨blk, 0, none⟩), .string st] w fun e w' => ∃ fl, e = .returned (.agg #[.string st, .string fl]) ∧ fl.size ≤ 20 ∧ RdAt w' blk (p + 1) ∧ Kept blk w w' := by
  have hlt := h.lt
  have HR : Hid (RdAt w blk p) := h
  clear h
  have HL : Hid (∀ i, i < 9 → ∃ s : ByteArray, ((w.alloc (.cells #[.string ⟨#[]⟩, .string ⟨#[]⟩] 76)).alloc (.cells #[.string ⟨#[]⟩, .string ⟨#[]⟩, .string ⟨#[83]⟩, .string ⟨#[71, 83]⟩, .string ⟨#[85]⟩, .string ⟨#[71, 85]⟩, .string ⟨#[82]⟩, .string ⟨#[84]⟩, .string ⟨#[67, 82, 83, 85]⟩] 9)).cell? ⟨w.heap.size + 1, i, none⟩ = some (.string s) ∧ s.size ≤ 20) := fun i hi => lit_texts2 20 w (.cells #[.string ⟨#[]⟩, .string ⟨#[]⟩] 76) #[.string ⟨#[]⟩, .string ⟨#[]⟩, .string ⟨#[83]⟩, .string ⟨#[71, 83]⟩, .string ⟨#[85]⟩, .string ⟨#[71, 85]⟩, .string ⟨#[82]⟩, .string ⟨#[84]⟩, .string ⟨#[67, 82, 83, 85]⟩] 9 (by decide +kernel) i hi
  go_enter Tryz.func60, Tryz.ntmps60
  go_wp2_with fail
  refine (of_any (fun s => s.size ≤ 20) _ blk p (w.heap.size + 1) 9 9 ((HR.out.alloc _).alloc _) (by omega) (by omega) (by omega) HL.out (by omega)).mono ?_
  rintro e w3 ⟨fl, rfl, hs3, hr3, hk3⟩
  have HR3 : Hid (RdAt w3 blk (p + 1)) := hr3
  have hB : w3.heap[w.heap.size]? = some (.cells #[.string ⟨#[]⟩, .string ⟨#[]⟩] 76 (0, 0)) := (hk3.block w.heap.size (by simp; omega) (by omega)).trans (alloc_first w _ _)
  have c0 : w3.cell? ⟨w.heap.size, 0, none⟩ = some (.string ⟨#[]⟩) := by rw [cell_of_row _ _ 0 _ _ _ hB]; rfl
  have c1 : w3.cell? ⟨w.heap.size, 1, none⟩ = some (.string ⟨#[]⟩) := by rw [cell_of_row _ _ 1 _ _ _ hB]; rfl
  have f0 := Go.Joins.unfrozen_of_block hB 0
  have f1 := Go.Joins.unfrozen_of_block hB 1
  have HK3 : Hid (Kept blk w w3) := (((Kept.refl blk w).alloc _).alloc _).trans hk3
  clear hB hr3 hk3 HL
  go_wp2
  refine bodyPost_ret (v := .agg #[.string st, .string fl]) (by simp [results, Tryz.results60, go_sem, c0, c1]) rfl ⟨fl, rfl, hs3, ?_, ?_⟩
  · exact (HR3.out.setNew (by omega) _ _).setNew (by omega) _ _
  · exact (HK3.out.setNew (Nat.le_refl _) _ _).setNew (Nat.le_refl _) _ _
end Go.Proofs.YtcmajekdalcjeaaGreat
/-
  Drawn affixes.
-/
namespace Go.Proofs.YtcmajekdalcjeaaGreat
open Go.RowKit
set_option linter.unusedVariables false
theorem grown_kept {blk : Nat} {w w' : World} (h : Kept blk w w') : w.grownBy w' (some blk) := ⟨h.os, h.tape, h.output, h.size, fun i hi hn => h.block i hi (fun e => hn (by rw [e]))⟩
theorem owns_kept {blk lo : Nat} {w w' : World} {e : TypeId} {s n : Nat} {v : Value} {xs : List Value} (h : w.ownsRow lo e s v n xs) (hk : Kept blk w w') (hb : blk < lo) : w'.ownsRow lo e s v n xs :=
  h.kept (grown_kept hk) (by
    cases hv : v.ownBlock with
    | none => exact .inl rfl
    | some g => exact .inr (fun e1 => by have := own_block_ge h g hv; cases e1; omega))
theorem kept_grown {blk lo : Nat} {a w w' : World} {v : Value} {e : TypeId} {s n : Nat} {xs : List Value} (hk : Kept blk a w) (ho : w.ownsRow lo e s v n xs) (hlo : a.heap.size ≤ lo) (hg : w.grownBy w' v.ownBlock) : Kept blk a w' := by
  have hs := hg.size
  have hb := hg.block
  obtain ⟨g1, g2, g3, g4, g5⟩ := hg
  exact ⟨g1.trans hk.os, g2.trans hk.tape, g3.trans hk.output, Nat.le_trans hk.size hs, fun k hk' hn => (hb k (Nat.lt_of_lt_of_le hk' hk.size) (fun e => by have := own_block_ge ho k e.symm; omega)).trans (hk.block k hk' hn)⟩
theorem rd_grown {w w' : World} {blk q : Nat} {row : Option Nat} (h : RdAt w blk q) (hg : w.grownBy w' row) (hr : ∀ j, row = some j → blk < j) : RdAt w' blk q := by
  have hlt := h.lt
  obtain ⟨a, len, cap, h1, h2, h3⟩ := h
  have hne : ∀ b, b ≤ blk → some b ≠ row := fun b hb e => by have := hr b e.symm; omega
  refine ⟨a, len, cap, (hg.block blk hlt (hne blk (Nat.le_refl _))).trans h1, h2, ?_⟩
  rcases h3 with h3 | ⟨b, off, ha, hb, hc⟩
  · exact .inl h3
  · refine .inr ⟨b, off, ha, hb, fun i hi => ?_⟩
    obtain ⟨z, hz, hz'⟩ := hc i hi
    exact ⟨z, (World.cell?_of_block (w := w) (hg.block b (by omega) (hne b (by omega)))).trans hz, hz'⟩
theorem aff_row {w : World} {lo : Nat} {v : Value} {ys : List Aff} {j : Nat} {y : Aff} (h : w.ownsRow lo 71 5 v ys.length (affCells ys)) (hy : ys[j]? = some y) : ∃ g cap, v = .slice (some ⟨g, 0, none⟩) ys.length cap ∧ g < w.heap.size ∧ ∀ i, i < 5 → w.cell? ⟨g, j * 5 + i, none⟩ = y.cells[i]? := by
  have hlt : j < ys.length := (List.getElem?_eq_some_iff.1 hy).1
  rcases h.2 with ⟨rfl, h0⟩ | ⟨g, cap, cur, rfl, hb, hg, _⟩
  · omega
  · refine ⟨g, cap, rfl, (Array.getElem?_eq_some_iff.1 hg).1, fun i hi => ?_⟩
    rw [h.cellAt (j * 5 + i) (by omega)]
    exact affCells_at ys j i y hy hi
theorem info_aff172 : (Tryz.prog.info? 71).map (fun i => (i.zero, i.size, i.bytes)) = some (some (.agg #[.string ⟨#[]⟩, .bool false, .string ⟨#[]⟩, .string ⟨#[]⟩, .string ⟨#[]⟩]), 5, 72) := by kernel_rfl
set_option maxRecDepth 100000 in
set_option maxHeartbeats 4000000 in
theorem l13Affixes_any (w : World) (blk p : Nat) (h : RdAt w blk p) (hp : p ≤ 800000) :
    Calls Tryz.prog 58 #[.pointer (some ⟨blk, 0, none⟩)] w fun e w' => ∃ (v : Value) (xs : List Aff), e = .returned v ∧ w'.ownsRow w.heap.size 71 5 v xs.length (affCells xs) ∧ xs.length ≤ 4 ∧ (∀ a ∈ xs, a.small) ∧ (∃ q, RdAt w' blk q ∧ q ≤ p + 6) ∧ Kept blk w w' := by
  have hlt := h.lt
  have HR : Hid (RdAt w blk p) := h
  clear h
  obtain ⟨i3, hi3, hz3, hs3, hb3⟩ := info_parts info_aff172
  have HO0 : Hid ((w.alloc (.cells #[] 71)).ownsRow w.heap.size 71 5 (.slice (some ⟨w.heap.size, 0, none⟩) 0 0) 0 []) := owns_alone (heap_alloc_last w _) (Nat.le_refl _)
  go_enter Tryz.func58, Tryz.ntmps58
  go_wp2_with fail
  refine (pick_any _ blk p 5 (HR.out.alloc _) (by omega) (by omega)).mono ?_
  rintro e w1 ⟨n, rfl, hn0, hn1, hr1, hk1⟩
  obtain ⟨m, rfl⟩ := Int.eq_ofNat_of_zero_le hn0
  have hm4 : m ≤ 4 := by have := hn1 (by omega); omega
  have HR1 : Hid (RdAt w1 blk (p + 1)) := hr1
  have HO1 : Hid (w1.ownsRow w.heap.size 71 5 (.slice (some ⟨w.heap.size, 0, none⟩) 0 0) 0 []) := owns_kept HO0.out hk1 hlt
  have HK1 : Hid (Kept blk w w1) := ((Kept.refl blk w).alloc _).trans hk1
  clear hn0 hn1 hr1 hk1 HO0 HR
  go_wp2
  go_loopw [3, 4] (fun o c wr => ∃ (v0 : Value) (xs : List Aff) (i q : Nat), o = v0 ∧ c = .int .i64 i ∧ xs.length + i ≤ 4 ∧ wr.ownsRow w.heap.size 71 5 v0 xs.length (affCells xs) ∧ (∀ a ∈ xs, a.small) ∧ RdAt wr blk q ∧ q + i ≤ p + 5 ∧ Kept blk w wr) (fun _ c _ => (intOf c).toNat)
  case atStart => exact ⟨_, [], m, p + 1, rfl, rfl, by simp; omega, HO1.out, (fun a ha => by cases ha), HR1.out, by omega, HK1.out⟩
  case round =>
    obtain ⟨v0, xs, i, q, hov, rfl, hli, ho, hsm, hr, hq, hk⟩ := hrel
    obtain ⟨b0, cp0, hv0⟩ := owns_form ho
    subst hv0
    subst hov
    have HO : Hid (wr.ownsRow w.heap.size 71 5 (.slice b0 xs.length cp0) xs.length (affCells xs)) := ho
    have HSM : Hid (∀ a ∈ xs, a.small) := hsm
    have HRQ : Hid (RdAt wr blk q) := hr
    have HK : Hid (Kept blk w wr) := hk
    clear ho hsm hr hk
    by_cases h0 : (0 : Int) < (i : Int)
    · go_wp2_with fail
      refine (l13Affix_any _ blk q HRQ.out (by omega)).mono ?_
      rintro e w3 ⟨a, rfl, has, hr3, hk3⟩
      obtain ⟨f, fr, st, ad, wh⟩ := a
      have HAS : Hid (Aff.small ⟨f, fr, st, ad, wh⟩) := has
      have HR3 : Hid (RdAt w3 blk (q + 1)) := hr3
      have HO3 : Hid (w3.ownsRow w.heap.size 71 5 (.slice b0 xs.length cp0) xs.length (affCells xs)) := owns_kept HO.out hk3 hlt
      have HK3 : Hid (Kept blk w w3) := HK.out.trans hk3
      have hz : w.heap.size ≤ w3.heap.size := HK3.out.size
      clear has hr3 hk3
      simp only [Aff.cells]
      obtain ⟨w4, hw4⟩ : ∃ w4, w3.alloc (.cells #[.string f, .bool fr, .string st, .string ad, .string wh] 71) = w4 := ⟨_, rfl⟩
      have HO4 : Hid (w4.ownsRow w.heap.size 71 5 (.slice b0 xs.length cp0) xs.length (affCells xs)) := by rw [← hw4]; exact HO3.out.alloc _
      have HR4 : Hid (RdAt w4 blk (q + 1)) := by rw [← hw4]; exact HR3.out.alloc _
      have HK4 : Hid (Kept blk w w4) := by rw [← hw4]; exact HK3.out.alloc _
      have hz4 : w3.heap.size < w4.heap.size := by rw [← hw4]; simp
      have hB : w4.heap[w3.heap.size]? = some (.cells #[.string f, .bool fr, .string st, .string ad, .string wh] 71 (0, 0)) := by rw [← hw4]; exact heap_alloc_last w3 _
      have D0 : Hid (w4.cell? ⟨w3.heap.size, 0, none⟩ = some (.string f) ∧ w4.cell? ⟨w3.heap.size, 1, none⟩ = some (.bool fr) ∧ w4.cell? ⟨w3.heap.size, 2, none⟩ = some (.string st) ∧ w4.cell? ⟨w3.heap.size, 3, none⟩ = some (.string ad) ∧ w4.cell? ⟨w3.heap.size, 4, none⟩ = some (.string wh)) := by
        show _ ∧ _
        exact ⟨by rw [cell_of_row _ _ 0 _ _ _ hB]; rfl, by rw [cell_of_row _ _ 1 _ _ _ hB]; rfl, by rw [cell_of_row _ _ 2 _ _ _ hB]; rfl, by rw [cell_of_row _ _ 3 _ _ _ hB]; rfl, by rw [cell_of_row _ _ 4 _ _ _ hB]; rfl⟩
      clear hB
      go_wp2
      clear hw4
      go_loopw [6, 7] (fun kn ix wi => ∃ (b : Bool) (j : Nat), kn = .bool b ∧ ix = .int .i64 j ∧ j ≤ xs.length ∧ Below w4.heap.size w4 wi) (fun _ ix _ => xs.length - (intOf ix).toNat)
      case atStart => exact ⟨false, 0, rfl, rfl, Nat.zero_le _, Below.refl _ _⟩
      case round =>
        rename World => wi
        obtain ⟨b, j, rfl, rfl, hj, hb⟩ := hrel
        have HBi : Hid (Below w4.heap.size w4 wi) := hb
        obtain ⟨d0, d1, d2, d3, d4⟩ := D0.out
        have e0 := (hb.cell (p := ⟨w3.heap.size, 0, none⟩) hz4).trans d0
        have e1 := (hb.cell (p := ⟨w3.heap.size, 1, none⟩) hz4).trans d1
        have e2 := (hb.cell (p := ⟨w3.heap.size, 2, none⟩) hz4).trans d2
        have e3 := (hb.cell (p := ⟨w3.heap.size, 3, none⟩) hz4).trans d3
        have e4 := (hb.cell (p := ⟨w3.heap.size, 4, none⟩) hz4).trans d4
        clear hb d0 d1 d2 d3 d4
        by_cases hlj : j < xs.length
        · obtain ⟨y, hy⟩ : ∃ y, xs[j]? = some y := ⟨_, List.getElem?_eq_getElem hlj⟩
          obtain ⟨g, cp, hv, hgl, hc⟩ := aff_row (owns_below HO4.out HBi.out) hy
          cases hv
          have c0 := hc 0 (by decide)
          have c1 := hc 1 (by decide)
          have c2 := hc 2 (by decide)
          have c3 := hc 3 (by decide)
          have c4 := hc 4 (by decide)
          obtain ⟨f', fr', st', ad', wh'⟩ := y
          simp [Aff.cells] at c0 c1 c2 c3 c4
          have i0 : (0 : Int) ≤ (j : Int) := by omega
          have i1 : (j : Int) < (xs.length : Int) := by omega
          have r1 := run_affEq5 f' st' ad' wh' f st ad wh fr' fr
          have r2 := @run_affGuard
          clear hc hy
          cases b with
          | true =>
            go_wp2_with fail
            go_quiet (fail)
            go_wp2
            go_roundw
            case rel => exact ⟨_, j + 1, rfl, by go_num, by omega, below_drewN70 HBi.out _⟩
            case measure => simp [intOf]; omega
          | false =>
            go_wp2_with fail
            go_quiet (fail)
            go_wp2
            go_roundw
            case rel => exact ⟨_, j + 1, rfl, by go_num, by omega, below_drewN70 HBi.out _⟩
            case measure => simp [intOf]; omega
        · have hje : j = xs.length := by omega
          subst hje
          have HOi : Hid (wi.ownsRow w.heap.size 71 5 (.slice b0 xs.length cp0) xs.length (affCells xs)) := owns_below HO4.out HBi.out
          have HRi : Hid (RdAt wi blk (q + 1)) := HR4.out.keep HBi.out
          have HKi : Hid (Kept blk w wi) := HK4.out.trans (Kept.of_below HBi.out)
          have hwi : w.heap.size ≤ wi.heap.size := HKi.out.size
          cases b with
          | true =>
            clear e0 e1 e2 e3 e4
            go_wp2
            go_roundw
            case rel => exact ⟨_, xs, i - 1, q + 1, rfl, by go_num, by omega, HOi.out, HSM.out, HRi.out, by omega, HKi.out⟩
            case measure => simp [intOf]; omega
          | false =>
            go_wp2_with (at_builtin; refine wpList_append_own _ rfl _ _ 23 rfl w.heap.size 71 i3 (.agg #[.string ⟨#[]⟩, .bool false, .string ⟨#[]⟩, .string ⟨#[]⟩, .string ⟨#[]⟩]) 5 72 Tryz.underlying23 hi3 hz3 hs3 hb3 rfl (by decide) _ _ _ rfl (HOi.out.alloc _) ⟨_, 0, none⟩ 1 1 [.string f, .bool fr, .string st, .string ad, .string wh] rfl rfl (by exact news_cells (cs := #[.string f, .bool fr, .string st, .string ad, .string wh]) (heap_alloc_last _ _)) (by simp [Value.oneCell']) (by unfold maxLen; omega) (by omega) (by rw [World.size_alloc]; omega) ?_; intro v' w5 hown hgrow hnil)
            go_roundw
            case rel =>
              refine ⟨v', xs ++ [⟨f, fr, st, ad, wh⟩], i - 1, q + 1, rfl, by go_num, by simp; omega, ?_, fun a ha => ?_, rd_grown (HRi.out.alloc _) hgrow (fun j hj => by have := own_block_ge HOi.out j hj; omega), by omega, kept_grown (HKi.out.alloc _) (HOi.out.alloc _) (Nat.le_refl _) hgrow⟩
              · rw [List.length_append, affCells_append, affCells_one]
                exact hown
              · rcases List.mem_append.1 ha with ha | ha
                · exact HSM.out a ha
                · rw [List.mem_singleton.1 ha]
                  exact HAS.out
            case measure => simp [intOf]; omega
    · go_wp2
      go_ret
      exact ⟨_, rfl, xs, HO.out, by omega, HSM.out, ⟨q, HRQ.out, by omega⟩, HK.out⟩
end Go.Proofs.YtcmajekdalcjeaaGreat
