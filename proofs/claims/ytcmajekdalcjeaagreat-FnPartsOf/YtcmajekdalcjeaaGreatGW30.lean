/-
  Drawn pairs of words; the laws FnFar, FnBeginning and FnWithin.
-/
import Derived.Test.YtcmajekdalcjeaaGreatGM6
import Derived.Test.YtcmajekdalcjeaaGreatGW4
import Derived.Test.YtcmajekdalcjeaaGreatW10
import Derived.Test.YtcmajekdalcjeaaGreatGW9
import Derived.Test.YtcmajekdalcjeaaGreatW14
import Derived.Test.YtcmajekdalcjeaaGreatGM7
import Derived.Test.YtcmajekdalcjeaaGreatGW69
namespace Go.Proofs.YtcmajekdalcjeaaGreat
open Go.RowKit
set_option linter.unusedVariables false
theorem TextRow.kept {w w' : World} {v : Value} {ss : List ByteArray} {blk p : Nat} (h : TextRow w v ss) (hr : RdAt w blk p) (hk : Kept blk w w') : TextRow w' v ss := by
  obtain ⟨g, cap, hv, hc, hcell, cur, hcur⟩ := h
  obtain ⟨a, len, cp, h1, _⟩ := hr
  have hne : g ≠ blk := by
    rintro rfl
    rw [h1] at hcur
    simp at hcur
  have hlt := lt_of_block hcur
  exact ⟨g, cap, hv, hc, fun i s hs => (hk.cell (p := ⟨g, i, none⟩) hlt hne).trans (hcell i s hs), cur, (hk.block g hlt hne).trans hcur⟩
/-- One of the texts, by a number. -/
theorem TextRow.look {w : World} {v : Value} {ss : List ByteArray} (h : TextRow w v ss) (hne : ss ≠ []) (x : Int) (hx : 0 ≤ x) :
    ∃ g cap i : Nat, ∃ s, v = .slice (some ⟨g, 0, none⟩) ss.length cap ∧ x.tmod (ss.length : Int) = (i : Int) ∧ x % (ss.length : Int) = (i : Int) ∧ i < ss.length ∧ w.cell? ⟨g, i, none⟩ = some (.string s) ∧ s ∈ ss := by
  obtain ⟨g, cap, hv, hc, hcell, _⟩ := h
  obtain ⟨n, rfl⟩ := Int.eq_ofNat_of_zero_le hx
  have hl : 0 < ss.length := by cases ss with | nil => exact absurd rfl hne | cons => simp
  have hi : n % ss.length < ss.length := Nat.mod_lt _ hl
  exact ⟨g, cap, n % ss.length, ss[n % ss.length], hv, rfl, rfl, hi, hcell _ _ (List.getElem?_eq_getElem hi), List.getElem_mem hi⟩
theorem farW_comm (a b : ByteArray) : farW a b = farW b a := by
  unfold farW
  by_cases h : wok a = true ∧ wok b = true
  · rw [if_pos h, if_pos h.symm]
    exact D_comm _ _ _ _ _ (Nat.le_refl _)
  · rw [if_neg h, if_neg fun x => h x.symm]
theorem cpl_extract (a b : ByteArray) : a.extract 0 (cpl a.data.toList b.data.toList) = b.extract 0 (cpl b.data.toList a.data.toList) := by
  apply data_inj
  rw [data_extract, data_extract, cpl_comm b.data.toList]
  simp only [List.drop_zero]
  exact cpl_take a.data.toList b.data.toList
end Go.Proofs.YtcmajekdalcjeaaGreat
/-
  The laws FnFar, FnBeginning and FnWithin return true.
-/
namespace Go.Proofs.YtcmajekdalcjeaaGreat
open Go.RowKit
set_option linter.unusedVariables false
theorem farW_neg (a b : ByteArray) (h : farW a b < 0) : ¬ (wok a = true ∧ wok b = true) := by
  intro hw
  unfold farW at h
  rw [if_pos hw] at h
  have := D_pos (lt a) (lt b) a.size b.size
  unfold far at h
  omega
theorem farW_word (a b : ByteArray) (h : ¬ farW a b < 0) : farW a b = far a b := by
  unfold farW at *
  split
  · rfl
  · next hn => rw [if_neg hn] at h; omega
theorem far_bounds (a b : ByteArray) : far a b ≤ max (a.size : Int) b.size ∧ (a.size : Int) - b.size ≤ far a b ∧ (b.size : Int) - a.size ≤ far a b ∧ 0 ≤ far a b := by
  have h1 := D_max (lt a) (lt b) _ a.size b.size (Nat.le_refl _)
  have h2 := D_ge (lt a) (lt b) _ a.size b.size (Nat.le_refl _)
  have h3 := D_pos (lt a) (lt b) a.size b.size
  unfold far
  exact ⟨h1, h2.1, h2.2, h3⟩
theorem far_same (a b : ByteArray) : (far a b == 0) = (a.toList == b.toList) := by
  rw [Bool.eq_iff_iff]
  simp only [beq_iff_eq]
  rw [far_eq_zero]
  exact ⟨fun h => by rw [h], toList_inj'⟩
theorem within_more (a b : ByteArray) (n : Int) (h : within a b n = true) : within a b (n + 1) = true := by
  unfold within at *
  simp only [Bool.and_eq_true, decide_eq_true_eq] at *
  exact ⟨h.1, h.2.1, by omega⟩
theorem within_self (a : ByteArray) (h : wok a = true) : within a a 0 = true := by
  unfold within
  have := (far_eq_zero a a).2 rfl
  simp [h, this]
end Go.Proofs.YtcmajekdalcjeaaGreat
/-
  Drawn affixes.
-/
namespace Go.Proofs.YtcmajekdalcjeaaGreat
open Go.RowKit
set_option linter.unusedVariables false
/-- An affix with short texts. -/
def Aff.small (a : Aff) : Prop := a.flag.size ≤ 20 ∧ a.strip.size ≤ 20 ∧ a.add.size ≤ 20 ∧ a.wh.size ≤ 20
theorem Aff.small.fits {a : Aff} (h : a.small) : a.fits := by
  obtain ⟨h1, h2, h3, h4⟩ := h
  unfold Aff.fits maxLen
  omega
theorem alloc_first (w : World) (o1 o2 : Obj) : ((w.alloc o1).alloc o2).heap[w.heap.size]? = some o1 :=
  (((Below.refl _ _).alloc (Nat.le_refl _) o2).block w.heap.size (by rw [World.size_alloc]; omega)).trans (heap_alloc_last w o1)
theorem Kept.setNew {blk : Nat} {w x : World} (h : Kept blk w x) {b : Nat} (hb : w.heap.size ≤ b) (i : Nat) (v : Value) : Kept blk w (x.setCell ⟨b, i, none⟩ v) :=
  ⟨h.os, h.tape, h.output, by simpa using h.size, fun k hk hn => (Below.heap_setCell x _ v k (by show k ≠ b; omega)).trans (h.block k hk hn)⟩
theorem RdAt.setNew {w : World} {blk p : Nat} (h : RdAt w blk p) {b : Nat} (hb : blk < b) (i : Nat) (v : Value) : RdAt (w.setCell ⟨b, i, none⟩ v) blk p := by
  obtain ⟨a, len, cap, h1, h2, h3⟩ := h
  refine ⟨a, len, cap, (Below.heap_setCell w _ v blk (by show blk ≠ b; omega)).trans h1, h2, ?_⟩
  rcases h3 with h3 | ⟨b', off, ha, hb', hc⟩
  · exact .inl h3
  · refine .inr ⟨b', off, ha, hb', fun i' hi => ?_⟩
    obtain ⟨z, hz, hz1⟩ := hc i' hi
    refine ⟨z, ?_, hz1⟩
    rw [← hz]
    exact World.cell?_of_block (w := w) (Below.heap_setCell w _ _ _ (by show b' ≠ b; omega))
set_option maxRecDepth 100000 in
set_option maxHeartbeats 2000000 in
theorem l13Affix_any (w : World) (blk p : Nat) (h : RdAt w blk p) (hp : p ≤ 900000) :
    Calls Tryz.prog 61 #[.pointer (some ⟨blk, 0, none⟩)] w fun e w' => ∃ a : Aff, e = .returned (.agg a.cells) ∧ a.small ∧ RdAt w' blk (p + 1) ∧ Kept blk w w' := by
  go_enter Tryz.func61, Tryz.ntmps61
  go_wp2_with fail
  refine (pick_any _ blk p 8 ((h.alloc _).alloc _) (by omega) (by omega)).mono ?_
  rintro e w1 ⟨v, rfl, hv0, hv1, hr1, hk1⟩
  have hv2 := hv1 (by omega)
  have hlt := h.lt
  have hc1 : ∀ b o, b < w.heap.size + 2 → ¬ b = blk → w1.cell? ⟨b, o, none⟩ = _ := fun b o hb hn => hk1.cell (p := ⟨b, o, none⟩) (by simpa using hb) hn
  have hb0 : ¬ w.heap.size = blk := by omega
  have hb1 : ¬ w.heap.size + 1 = blk := by omega
  have hz1 : w.heap.size + 1 < w1.heap.size := by have := hk1.size; simp at this; omega
  have hB := (hk1.block w.heap.size (by simp only [World.size_alloc]; omega) hb0).trans (alloc_first _ _ _)
  have f0 := Go.Joins.unfrozen_of_block hB 0
  have f1 := Go.Joins.unfrozen_of_block hB 1
  have f2 := Go.Joins.unfrozen_of_block hB 2
  have f3 := Go.Joins.unfrozen_of_block hB 3
  have f4 := Go.Joins.unfrozen_of_block hB 4
  have c0 : w1.cell? ⟨w.heap.size, 0, none⟩ = _ := cell_of_row _ _ 0 _ _ _ hB
  have c1 : w1.cell? ⟨w.heap.size, 1, none⟩ = _ := cell_of_row _ _ 1 _ _ _ hB
  have c2 : w1.cell? ⟨w.heap.size, 2, none⟩ = _ := cell_of_row _ _ 2 _ _ _ hB
  have c3 : w1.cell? ⟨w.heap.size, 3, none⟩ = _ := cell_of_row _ _ 3 _ _ _ hB
  have c4 : w1.cell? ⟨w.heap.size, 4, none⟩ = _ := cell_of_row _ _ 4 _ _ _ hB
  clear hB
  have HR1 : Hid (RdAt w1 blk (p + 1)) := hr1
  have HK1 : Hid (Kept blk w w1) := Kept.trans ((Kept.refl blk w).alloc _ |>.alloc _) hk1
  clear hr1 hk1 hv1
  have hv3 : v = 0 ∨ v = 1 ∨ v = 2 ∨ v = 3 ∨ v = 4 ∨ v = 5 ∨ v = 6 ∨ v = 7 := by omega
  clear hv0 hv2
  rcases hv3 with rfl | rfl | rfl | rfl | rfl | rfl | rfl | rfl
  · go_wp2_with fail
    refine bodyPost_ret (v := .agg #[.string ⟨#[83]⟩, .bool false, .string ⟨#[]⟩, .string ⟨#[115]⟩, .string ⟨#[]⟩]) (by simp [results, Tryz.results61, go_sem, c0, c1, c2, c3, c4]) rfl ⟨⟨⟨#[83]⟩, false, ⟨#[]⟩, ⟨#[115]⟩, ⟨#[]⟩⟩, rfl, by unfold Aff.small; decide, ?_, ?_⟩
    · exact ((((HR1.out.setNew hlt _ _).setNew hlt _ _).setNew hlt _ _).setNew hlt _ _).setNew hlt _ _
    · exact ((((HK1.out.setNew (Nat.le_refl _) _ _).setNew (Nat.le_refl _) _ _).setNew (Nat.le_refl _) _ _).setNew (Nat.le_refl _) _ _).setNew (Nat.le_refl _) _ _
  · go_wp2_with fail
    refine bodyPost_ret (v := .agg #[.string ⟨#[83]⟩, .bool false, .string ⟨#[121]⟩, .string ⟨#[105, 101, 115]⟩, .string ⟨#[121]⟩]) (by simp [results, Tryz.results61, go_sem, c0, c1, c2, c3, c4]) rfl ⟨⟨⟨#[83]⟩, false, ⟨#[121]⟩, ⟨#[105, 101, 115]⟩, ⟨#[121]⟩⟩, rfl, by unfold Aff.small; decide, ?_, ?_⟩
    · exact ((((HR1.out.setNew hlt _ _).setNew hlt _ _).setNew hlt _ _).setNew hlt _ _).setNew hlt _ _
    · exact ((((HK1.out.setNew (Nat.le_refl _) _ _).setNew (Nat.le_refl _) _ _).setNew (Nat.le_refl _) _ _).setNew (Nat.le_refl _) _ _).setNew (Nat.le_refl _) _ _
  · go_wp2_with fail
    refine bodyPost_ret (v := .agg #[.string ⟨#[71]⟩, .bool false, .string ⟨#[]⟩, .string ⟨#[105, 110, 103]⟩, .string ⟨#[]⟩]) (by simp [results, Tryz.results61, go_sem, c0, c1, c2, c3, c4]) rfl ⟨⟨⟨#[71]⟩, false, ⟨#[]⟩, ⟨#[105, 110, 103]⟩, ⟨#[]⟩⟩, rfl, by unfold Aff.small; decide, ?_, ?_⟩
    · exact ((((HR1.out.setNew hlt _ _).setNew hlt _ _).setNew hlt _ _).setNew hlt _ _).setNew hlt _ _
    · exact ((((HK1.out.setNew (Nat.le_refl _) _ _).setNew (Nat.le_refl _) _ _).setNew (Nat.le_refl _) _ _).setNew (Nat.le_refl _) _ _).setNew (Nat.le_refl _) _ _
  · go_wp2_with fail
    refine bodyPost_ret (v := .agg #[.string ⟨#[71]⟩, .bool false, .string ⟨#[101]⟩, .string ⟨#[105, 110, 103]⟩, .string ⟨#[101]⟩]) (by simp [results, Tryz.results61, go_sem, c0, c1, c2, c3, c4]) rfl ⟨⟨⟨#[71]⟩, false, ⟨#[101]⟩, ⟨#[105, 110, 103]⟩, ⟨#[101]⟩⟩, rfl, by unfold Aff.small; decide, ?_, ?_⟩
    · exact ((((HR1.out.setNew hlt _ _).setNew hlt _ _).setNew hlt _ _).setNew hlt _ _).setNew hlt _ _
    · exact ((((HK1.out.setNew (Nat.le_refl _) _ _).setNew (Nat.le_refl _) _ _).setNew (Nat.le_refl _) _ _).setNew (Nat.le_refl _) _ _).setNew (Nat.le_refl _) _ _
  · go_wp2_with fail
    refine bodyPost_ret (v := .agg #[.string ⟨#[85]⟩, .bool true, .string ⟨#[]⟩, .string ⟨#[117, 110]⟩, .string ⟨#[]⟩]) (by simp [results, Tryz.results61, go_sem, c0, c1, c2, c3, c4]) rfl ⟨⟨⟨#[85]⟩, true, ⟨#[]⟩, ⟨#[117, 110]⟩, ⟨#[]⟩⟩, rfl, by unfold Aff.small; decide, ?_, ?_⟩
    · exact ((((HR1.out.setNew hlt _ _).setNew hlt _ _).setNew hlt _ _).setNew hlt _ _).setNew hlt _ _
    · exact ((((HK1.out.setNew (Nat.le_refl _) _ _).setNew (Nat.le_refl _) _ _).setNew (Nat.le_refl _) _ _).setNew (Nat.le_refl _) _ _).setNew (Nat.le_refl _) _ _
  · go_wp2_with fail
    refine bodyPost_ret (v := .agg #[.string ⟨#[82]⟩, .bool true, .string ⟨#[97]⟩, .string ⟨#[98]⟩, .string ⟨#[97]⟩]) (by simp [results, Tryz.results61, go_sem, c0, c1, c2, c3, c4]) rfl ⟨⟨⟨#[82]⟩, true, ⟨#[97]⟩, ⟨#[98]⟩, ⟨#[97]⟩⟩, rfl, by unfold Aff.small; decide, ?_, ?_⟩
    · exact ((((HR1.out.setNew hlt _ _).setNew hlt _ _).setNew hlt _ _).setNew hlt _ _).setNew hlt _ _
    · exact ((((HK1.out.setNew (Nat.le_refl _) _ _).setNew (Nat.le_refl _) _ _).setNew (Nat.le_refl _) _ _).setNew (Nat.le_refl _) _ _).setNew (Nat.le_refl _) _ _
  · go_wp2_with fail
    refine bodyPost_ret (v := .agg #[.string ⟨#[84]⟩, .bool false, .string ⟨#[]⟩, .string ⟨#[116]⟩, .string ⟨#[97, 99]⟩]) (by simp [results, Tryz.results61, go_sem, c0, c1, c2, c3, c4]) rfl ⟨⟨⟨#[84]⟩, false, ⟨#[]⟩, ⟨#[116]⟩, ⟨#[97, 99]⟩⟩, rfl, by unfold Aff.small; decide, ?_, ?_⟩
    · exact ((((HR1.out.setNew hlt _ _).setNew hlt _ _).setNew hlt _ _).setNew hlt _ _).setNew hlt _ _
    · exact ((((HK1.out.setNew (Nat.le_refl _) _ _).setNew (Nat.le_refl _) _ _).setNew (Nat.le_refl _) _ _).setNew (Nat.le_refl _) _ _).setNew (Nat.le_refl _) _ _
  · go_wp2_with fail
    refine bodyPost_ret (v := .agg #[.string ⟨#[67]⟩, .bool false, .string ⟨#[]⟩, .string ⟨#[97, 98, 99]⟩, .string ⟨#[]⟩]) (by simp [results, Tryz.results61, go_sem, c0, c1, c2, c3, c4]) rfl ⟨⟨⟨#[67]⟩, false, ⟨#[]⟩, ⟨#[97, 98, 99]⟩, ⟨#[]⟩⟩, rfl, by unfold Aff.small; decide, ?_, ?_⟩
    · exact ((((HR1.out.setNew hlt _ _).setNew hlt _ _).setNew hlt _ _).setNew hlt _ _).setNew hlt _ _
    · exact ((((HK1.out.setNew (Nat.le_refl _) _ _).setNew (Nat.le_refl _) _ _).setNew (Nat.le_refl _) _ _).setNew (Nat.le_refl _) _ _).setNew (Nat.le_refl _) _ _
end Go.Proofs.YtcmajekdalcjeaaGreat
/-
  Drawn affixes, of any kind.
-/
namespace Go.Proofs.YtcmajekdalcjeaaGreat
open Go.RowKit
set_option linter.unusedVariables false
set_option maxRecDepth 100000 in
set_option maxHeartbeats 4000000 in
theorem l13AnyAffix_any (w : World) (blk p : Nat) (h : RdAt w blk p) (hp : p ≤ 800000) :
    Calls Tryz.prog 38 #[.pointer (some ⟨blk, 0, none⟩)] w fun e w' => ∃ a : Aff, e = .returned (.agg a.cells) ∧ a.small ∧ (∃ q, RdAt w' blk q ∧ q ≤ p + 3) ∧ Kept blk w w' := by
  have hlt := h.lt
  go_enter Tryz.func38, Tryz.ntmps38
  go_wp2_with fail
  refine (l13Affix_any _ blk p (h.alloc _) (by omega)).mono ?_
  rintro e w1 ⟨⟨f, fr, st, ad, wh⟩, rfl, hsm, hr1, hk1⟩
  have hb0 : ¬ w.heap.size = blk := by omega
  have hB0 := (hk1.block w.heap.size (by simp only [World.size_alloc]; omega) hb0).trans (heap_alloc_last _ _)
  have hz1 : w.heap.size < w1.heap.size := by have := hk1.size; simp only [World.size_alloc] at this; omega
  have HK1 : Hid (Kept blk w w1) := Kept.trans ((Kept.refl blk w).alloc _) hk1
  have HR1 : Hid (RdAt w1 blk (p + 1)) := hr1
  have HB0 : Hid (w1.heap[w.heap.size]? = some (Obj.cells #[.string ⟨#[]⟩, .bool false, .string ⟨#[]⟩, .string ⟨#[]⟩, .string ⟨#[]⟩] 71 (0, 0))) := hB0
  have HSM : Hid (Aff.small ⟨f, fr, st, ad, wh⟩) := hsm
  clear hB0 hr1 hk1 h hsm
  unfold Aff.cells
  go_wp2_with fail
  refine (pick_any _ blk (p + 1) 12 (HR1.out.alloc _) (by omega) (by omega)).mono ?_
  rintro e w2 ⟨v, rfl, hv0, hv1, hr2, hk2⟩
  clear hv0 hv1
  have hne : ¬ w1.heap.size = w.heap.size := by omega
  have hne' : ¬ w.heap.size = w1.heap.size := by omega
  have hz2 : w1.heap.size < w2.heap.size := by have := hk2.size; simp only [World.size_alloc] at this; omega
  have HA2 : Hid (w2.heap[w1.heap.size]? = some (Obj.cells #[.string f, .bool fr, .string st, .string ad, .string wh] 71 (0, 0))) :=
    (hk2.block w1.heap.size (by simp only [World.size_alloc]; omega) (by omega)).trans (heap_alloc_last _ _)
  have HZ2 : Hid (w2.heap[w.heap.size]? = some (Obj.cells #[.string ⟨#[]⟩, .bool false, .string ⟨#[]⟩, .string ⟨#[]⟩, .string ⟨#[]⟩] 71 (0, 0))) :=
    (hk2.block w.heap.size (by simp only [World.size_alloc]; omega) (by omega)).trans ((((Below.refl _ _).alloc (Nat.le_refl _) _).block w.heap.size hz1).trans HB0.out)
  have HR2 : Hid (RdAt w2 blk (p + 1 + 1)) := hr2
  have HK2 : Hid (Kept blk w w2) := (HK1.out.alloc _).trans hk2
  clear hr2 hk2
  cases v0 : (v == 0) with
  | true =>
    go_wp2_with fail
    refine (of_any (fun s => s.size ≤ 20) _ blk (p + 1 + 1) _ 4 4 (HR2.out.alloc _) (by omega) (by omega) (by omega) (by intro i hi; refine lit_texts 20 _ _ _ ?_ i hi; decide +kernel) (by have := HR2.out.lt; omega)).mono ?_
    rintro e w3 ⟨s3, rfl, hs3, hr3, hk3⟩
    have Ha : Hid (w3.heap[w1.heap.size]? = some (Obj.cells #[.string f, .bool fr, .string st, .string ad, .string wh] 71 (0, 0))) :=
      ((((Kept.refl blk w2).alloc _).trans hk3).block w1.heap.size (by omega) (by omega)).trans HA2.out
    have Hz : Hid (w3.heap[w.heap.size]? = some (Obj.cells #[.string ⟨#[]⟩, .bool false, .string ⟨#[]⟩, .string ⟨#[]⟩, .string ⟨#[]⟩] 71 (0, 0))) :=
      ((((Kept.refl blk w2).alloc _).trans hk3).block w.heap.size (by omega) (by omega)).trans HZ2.out
    have HR3 : Hid (RdAt w3 blk (p + 1 + 1 + 1)) := hr3
    have HK3 : Hid (Kept blk w w3) := HK2.out.trans (((Kept.refl blk w2).alloc _).trans hk3)
    clear hr3 hk3
    have ca0 : w3.cell? ⟨w1.heap.size, 0, none⟩ = _ := cell_of_row _ _ 0 _ _ _ Ha.out
    have fa0 := Go.Joins.unfrozen_of_block Ha.out 0
    have ca1 : w3.cell? ⟨w1.heap.size, 1, none⟩ = _ := cell_of_row _ _ 1 _ _ _ Ha.out
    have fa1 := Go.Joins.unfrozen_of_block Ha.out 1
    have ca2 : w3.cell? ⟨w1.heap.size, 2, none⟩ = _ := cell_of_row _ _ 2 _ _ _ Ha.out
    have fa2 := Go.Joins.unfrozen_of_block Ha.out 2
    have ca3 : w3.cell? ⟨w1.heap.size, 3, none⟩ = _ := cell_of_row _ _ 3 _ _ _ Ha.out
    have fa3 := Go.Joins.unfrozen_of_block Ha.out 3
    have ca4 : w3.cell? ⟨w1.heap.size, 4, none⟩ = _ := cell_of_row _ _ 4 _ _ _ Ha.out
    have fa4 := Go.Joins.unfrozen_of_block Ha.out 4
    have cz0 : w3.cell? ⟨w.heap.size, 0, none⟩ = _ := cell_of_row _ _ 0 _ _ _ Hz.out
    have fz0 := Go.Joins.unfrozen_of_block Hz.out 0
    have cz1 : w3.cell? ⟨w.heap.size, 1, none⟩ = _ := cell_of_row _ _ 1 _ _ _ Hz.out
    have fz1 := Go.Joins.unfrozen_of_block Hz.out 1
    have cz2 : w3.cell? ⟨w.heap.size, 2, none⟩ = _ := cell_of_row _ _ 2 _ _ _ Hz.out
    have fz2 := Go.Joins.unfrozen_of_block Hz.out 2
    have cz3 : w3.cell? ⟨w.heap.size, 3, none⟩ = _ := cell_of_row _ _ 3 _ _ _ Hz.out
    have fz3 := Go.Joins.unfrozen_of_block Hz.out 3
    have cz4 : w3.cell? ⟨w.heap.size, 4, none⟩ = _ := cell_of_row _ _ 4 _ _ _ Hz.out
    have fz4 := Go.Joins.unfrozen_of_block Hz.out 4
    go_wp2_with fail
    refine bodyPost_ret (v := .agg #[.string s3, .bool fr, .string st, .string ad, .string wh]) (by simp [results, Tryz.results38, go_sem, cz0, cz1, cz2, cz3, cz4]) rfl ⟨⟨s3, fr, st, ad, wh⟩, rfl, ⟨hs3, HSM.out.2.1, HSM.out.2.2.1, HSM.out.2.2.2⟩, ⟨p + 1 + 1 + 1, ?_, by omega⟩, ?_⟩
    · exact ((((((HR3.out.setNew (Nat.lt_trans hlt hz1) _ _).setNew hlt _ _).setNew hlt _ _).setNew hlt _ _).setNew hlt _ _).setNew hlt _ _)
    · exact ((((((HK3.out.setNew (Nat.le_of_lt hz1) _ _).setNew (Nat.le_refl _) _ _).setNew (Nat.le_refl _) _ _).setNew (Nat.le_refl _) _ _).setNew (Nat.le_refl _) _ _).setNew (Nat.le_refl _) _ _)
  | false =>
    cases v1 : (v == 1) with
    | true =>
      go_wp2_with fail
      refine (of_any (fun s => s.size ≤ 20) _ blk (p + 1 + 1) _ 4 4 (HR2.out.alloc _) (by omega) (by omega) (by omega) (by intro i hi; refine lit_texts 20 _ _ _ ?_ i hi; decide +kernel) (by have := HR2.out.lt; omega)).mono ?_
      rintro e w3 ⟨s3, rfl, hs3, hr3, hk3⟩
      have Ha : Hid (w3.heap[w1.heap.size]? = some (Obj.cells #[.string f, .bool fr, .string st, .string ad, .string wh] 71 (0, 0))) :=
        ((((Kept.refl blk w2).alloc _).trans hk3).block w1.heap.size (by omega) (by omega)).trans HA2.out
      have Hz : Hid (w3.heap[w.heap.size]? = some (Obj.cells #[.string ⟨#[]⟩, .bool false, .string ⟨#[]⟩, .string ⟨#[]⟩, .string ⟨#[]⟩] 71 (0, 0))) :=
        ((((Kept.refl blk w2).alloc _).trans hk3).block w.heap.size (by omega) (by omega)).trans HZ2.out
      have HR3 : Hid (RdAt w3 blk (p + 1 + 1 + 1)) := hr3
      have HK3 : Hid (Kept blk w w3) := HK2.out.trans (((Kept.refl blk w2).alloc _).trans hk3)
      clear hr3 hk3
      have ca0 : w3.cell? ⟨w1.heap.size, 0, none⟩ = _ := cell_of_row _ _ 0 _ _ _ Ha.out
      have fa0 := Go.Joins.unfrozen_of_block Ha.out 0
      have ca1 : w3.cell? ⟨w1.heap.size, 1, none⟩ = _ := cell_of_row _ _ 1 _ _ _ Ha.out
      have fa1 := Go.Joins.unfrozen_of_block Ha.out 1
      have ca2 : w3.cell? ⟨w1.heap.size, 2, none⟩ = _ := cell_of_row _ _ 2 _ _ _ Ha.out
      have fa2 := Go.Joins.unfrozen_of_block Ha.out 2
      have ca3 : w3.cell? ⟨w1.heap.size, 3, none⟩ = _ := cell_of_row _ _ 3 _ _ _ Ha.out
      have fa3 := Go.Joins.unfrozen_of_block Ha.out 3
      have ca4 : w3.cell? ⟨w1.heap.size, 4, none⟩ = _ := cell_of_row _ _ 4 _ _ _ Ha.out
      have fa4 := Go.Joins.unfrozen_of_block Ha.out 4
      have cz0 : w3.cell? ⟨w.heap.size, 0, none⟩ = _ := cell_of_row _ _ 0 _ _ _ Hz.out
      have fz0 := Go.Joins.unfrozen_of_block Hz.out 0
      have cz1 : w3.cell? ⟨w.heap.size, 1, none⟩ = _ := cell_of_row _ _ 1 _ _ _ Hz.out
      have fz1 := Go.Joins.unfrozen_of_block Hz.out 1
      have cz2 : w3.cell? ⟨w.heap.size, 2, none⟩ = _ := cell_of_row _ _ 2 _ _ _ Hz.out
      have fz2 := Go.Joins.unfrozen_of_block Hz.out 2
      have cz3 : w3.cell? ⟨w.heap.size, 3, none⟩ = _ := cell_of_row _ _ 3 _ _ _ Hz.out
      have fz3 := Go.Joins.unfrozen_of_block Hz.out 3
      have cz4 : w3.cell? ⟨w.heap.size, 4, none⟩ = _ := cell_of_row _ _ 4 _ _ _ Hz.out
      have fz4 := Go.Joins.unfrozen_of_block Hz.out 4
      go_wp2_with fail
      refine bodyPost_ret (v := .agg #[.string f, .bool fr, .string s3, .string ad, .string wh]) (by simp [results, Tryz.results38, go_sem, cz0, cz1, cz2, cz3, cz4]) rfl ⟨⟨f, fr, s3, ad, wh⟩, rfl, ⟨HSM.out.1, hs3, HSM.out.2.2.1, HSM.out.2.2.2⟩, ⟨p + 1 + 1 + 1, ?_, by omega⟩, ?_⟩
      · exact ((((((HR3.out.setNew (Nat.lt_trans hlt hz1) _ _).setNew hlt _ _).setNew hlt _ _).setNew hlt _ _).setNew hlt _ _).setNew hlt _ _)
      · exact ((((((HK3.out.setNew (Nat.le_of_lt hz1) _ _).setNew (Nat.le_refl _) _ _).setNew (Nat.le_refl _) _ _).setNew (Nat.le_refl _) _ _).setNew (Nat.le_refl _) _ _).setNew (Nat.le_refl _) _ _)
    | false =>
      cases v2 : (v == 2) with
      | true =>
        go_wp2_with fail
        refine (of_any (fun s => s.size ≤ 20) _ blk (p + 1 + 1) _ 4 4 (HR2.out.alloc _) (by omega) (by omega) (by omega) (by intro i hi; refine lit_texts 20 _ _ _ ?_ i hi; decide +kernel) (by have := HR2.out.lt; omega)).mono ?_
        rintro e w3 ⟨s3, rfl, hs3, hr3, hk3⟩
        have Ha : Hid (w3.heap[w1.heap.size]? = some (Obj.cells #[.string f, .bool fr, .string st, .string ad, .string wh] 71 (0, 0))) :=
          ((((Kept.refl blk w2).alloc _).trans hk3).block w1.heap.size (by omega) (by omega)).trans HA2.out
        have Hz : Hid (w3.heap[w.heap.size]? = some (Obj.cells #[.string ⟨#[]⟩, .bool false, .string ⟨#[]⟩, .string ⟨#[]⟩, .string ⟨#[]⟩] 71 (0, 0))) :=
          ((((Kept.refl blk w2).alloc _).trans hk3).block w.heap.size (by omega) (by omega)).trans HZ2.out
        have HR3 : Hid (RdAt w3 blk (p + 1 + 1 + 1)) := hr3
        have HK3 : Hid (Kept blk w w3) := HK2.out.trans (((Kept.refl blk w2).alloc _).trans hk3)
        clear hr3 hk3
        have ca0 : w3.cell? ⟨w1.heap.size, 0, none⟩ = _ := cell_of_row _ _ 0 _ _ _ Ha.out
        have fa0 := Go.Joins.unfrozen_of_block Ha.out 0
        have ca1 : w3.cell? ⟨w1.heap.size, 1, none⟩ = _ := cell_of_row _ _ 1 _ _ _ Ha.out
        have fa1 := Go.Joins.unfrozen_of_block Ha.out 1
        have ca2 : w3.cell? ⟨w1.heap.size, 2, none⟩ = _ := cell_of_row _ _ 2 _ _ _ Ha.out
        have fa2 := Go.Joins.unfrozen_of_block Ha.out 2
        have ca3 : w3.cell? ⟨w1.heap.size, 3, none⟩ = _ := cell_of_row _ _ 3 _ _ _ Ha.out
        have fa3 := Go.Joins.unfrozen_of_block Ha.out 3
        have ca4 : w3.cell? ⟨w1.heap.size, 4, none⟩ = _ := cell_of_row _ _ 4 _ _ _ Ha.out
        have fa4 := Go.Joins.unfrozen_of_block Ha.out 4
        have cz0 : w3.cell? ⟨w.heap.size, 0, none⟩ = _ := cell_of_row _ _ 0 _ _ _ Hz.out
        have fz0 := Go.Joins.unfrozen_of_block Hz.out 0
        have cz1 : w3.cell? ⟨w.heap.size, 1, none⟩ = _ := cell_of_row _ _ 1 _ _ _ Hz.out
        have fz1 := Go.Joins.unfrozen_of_block Hz.out 1
        have cz2 : w3.cell? ⟨w.heap.size, 2, none⟩ = _ := cell_of_row _ _ 2 _ _ _ Hz.out
        have fz2 := Go.Joins.unfrozen_of_block Hz.out 2
        have cz3 : w3.cell? ⟨w.heap.size, 3, none⟩ = _ := cell_of_row _ _ 3 _ _ _ Hz.out
        have fz3 := Go.Joins.unfrozen_of_block Hz.out 3
        have cz4 : w3.cell? ⟨w.heap.size, 4, none⟩ = _ := cell_of_row _ _ 4 _ _ _ Hz.out
        have fz4 := Go.Joins.unfrozen_of_block Hz.out 4
        go_wp2_with fail
        refine bodyPost_ret (v := .agg #[.string f, .bool fr, .string st, .string ad, .string s3]) (by simp [results, Tryz.results38, go_sem, cz0, cz1, cz2, cz3, cz4]) rfl ⟨⟨f, fr, st, ad, s3⟩, rfl, ⟨HSM.out.1, HSM.out.2.1, HSM.out.2.2.1, hs3⟩, ⟨p + 1 + 1 + 1, ?_, by omega⟩, ?_⟩
        · exact ((((((HR3.out.setNew (Nat.lt_trans hlt hz1) _ _).setNew hlt _ _).setNew hlt _ _).setNew hlt _ _).setNew hlt _ _).setNew hlt _ _)
        · exact ((((((HK3.out.setNew (Nat.le_of_lt hz1) _ _).setNew (Nat.le_refl _) _ _).setNew (Nat.le_refl _) _ _).setNew (Nat.le_refl _) _ _).setNew (Nat.le_refl _) _ _).setNew (Nat.le_refl _) _ _)
      | false =>
        have Ha : Hid (w2.heap[w1.heap.size]? = some (Obj.cells #[.string f, .bool fr, .string st, .string ad, .string wh] 71 (0, 0))) := HA2.out
        have Hz : Hid (w2.heap[w.heap.size]? = some (Obj.cells #[.string ⟨#[]⟩, .bool false, .string ⟨#[]⟩, .string ⟨#[]⟩, .string ⟨#[]⟩] 71 (0, 0))) := HZ2.out
        have ca0 : w2.cell? ⟨w1.heap.size, 0, none⟩ = _ := cell_of_row _ _ 0 _ _ _ Ha.out
        have fa0 := Go.Joins.unfrozen_of_block Ha.out 0
        have ca1 : w2.cell? ⟨w1.heap.size, 1, none⟩ = _ := cell_of_row _ _ 1 _ _ _ Ha.out
        have fa1 := Go.Joins.unfrozen_of_block Ha.out 1
        have ca2 : w2.cell? ⟨w1.heap.size, 2, none⟩ = _ := cell_of_row _ _ 2 _ _ _ Ha.out
        have fa2 := Go.Joins.unfrozen_of_block Ha.out 2
        have ca3 : w2.cell? ⟨w1.heap.size, 3, none⟩ = _ := cell_of_row _ _ 3 _ _ _ Ha.out
        have fa3 := Go.Joins.unfrozen_of_block Ha.out 3
        have ca4 : w2.cell? ⟨w1.heap.size, 4, none⟩ = _ := cell_of_row _ _ 4 _ _ _ Ha.out
        have fa4 := Go.Joins.unfrozen_of_block Ha.out 4
        have cz0 : w2.cell? ⟨w.heap.size, 0, none⟩ = _ := cell_of_row _ _ 0 _ _ _ Hz.out
        have fz0 := Go.Joins.unfrozen_of_block Hz.out 0
        have cz1 : w2.cell? ⟨w.heap.size, 1, none⟩ = _ := cell_of_row _ _ 1 _ _ _ Hz.out
        have fz1 := Go.Joins.unfrozen_of_block Hz.out 1
        have cz2 : w2.cell? ⟨w.heap.size, 2, none⟩ = _ := cell_of_row _ _ 2 _ _ _ Hz.out
        have fz2 := Go.Joins.unfrozen_of_block Hz.out 2
        have cz3 : w2.cell? ⟨w.heap.size, 3, none⟩ = _ := cell_of_row _ _ 3 _ _ _ Hz.out
        have fz3 := Go.Joins.unfrozen_of_block Hz.out 3
        have cz4 : w2.cell? ⟨w.heap.size, 4, none⟩ = _ := cell_of_row _ _ 4 _ _ _ Hz.out
        have fz4 := Go.Joins.unfrozen_of_block Hz.out 4
        cases v3 : (v == 3) with
        | true =>
          go_wp2_with fail
          refine bodyPost_ret (v := .agg #[.string f, .bool (!fr), .string st, .string ad, .string wh]) (by simp [results, Tryz.results38, go_sem, cz0, cz1, cz2, cz3, cz4]) rfl ⟨⟨f, !fr, st, ad, wh⟩, rfl, HSM.out, ⟨p + 1 + 1, ?_, by omega⟩, ?_⟩
          · exact ((((((HR2.out.setNew (Nat.lt_trans hlt hz1) _ _).setNew hlt _ _).setNew hlt _ _).setNew hlt _ _).setNew hlt _ _).setNew hlt _ _)
          · exact ((((((HK2.out.setNew (Nat.le_of_lt hz1) _ _).setNew (Nat.le_refl _) _ _).setNew (Nat.le_refl _) _ _).setNew (Nat.le_refl _) _ _).setNew (Nat.le_refl _) _ _).setNew (Nat.le_refl _) _ _)
        | false =>
          go_wp2_with fail
          refine bodyPost_ret (v := .agg #[.string f, .bool fr, .string st, .string ad, .string wh]) (by simp [results, Tryz.results38, go_sem, cz0, cz1, cz2, cz3, cz4]) rfl ⟨⟨f, fr, st, ad, wh⟩, rfl, HSM.out, ⟨p + 1 + 1, ?_, by omega⟩, ?_⟩
          · exact (((((HR2.out.setNew hlt _ _).setNew hlt _ _).setNew hlt _ _).setNew hlt _ _).setNew hlt _ _)
          · exact (((((HK2.out.setNew (Nat.le_refl _) _ _).setNew (Nat.le_refl _) _ _).setNew (Nat.le_refl _) _ _).setNew (Nat.le_refl _) _ _).setNew (Nat.le_refl _) _ _)
end Go.Proofs.YtcmajekdalcjeaaGreat
