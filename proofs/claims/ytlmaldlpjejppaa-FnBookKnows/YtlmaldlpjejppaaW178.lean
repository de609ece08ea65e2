/-
  FnBookKnows.
-/
import Derived.Test.YtlmaldlpjejppaaGW177
import Derived.Test.YtlmaldlpjejppaaW157
import Derived.Test.YtlmaldlpjejppaaGW170
import Derived.Test.YtlmaldlpjejppaaGW92
namespace Go.Proofs.Ytlmaldlpjejppaa
open Go.RowKit
set_option linter.unusedVariables false
theorem memT_hasW (xs : List ByteArray) (s : ByteArray) : memT xs s = hasW xs s := by
  rw [Bool.eq_iff_iff, memT_iff, hasW_iff]
set_option maxRecDepth 100000 in
set_option maxHeartbeats 1000000 in
theorem fnBookKnows_walk (a : Option Addr) (len cap : Nat) (zs : List Int) (w : World) (h : IsRow .u8 w a len cap zs) :
    Calls Try.prog 3 #[.slice a len cap] w fun e w' => e = .returned (.bool true) ∧ Below w.heap.size w w' := by
  by_cases h1 : (1048576 : Int) < (len : Int)
  · clear h
    go_enter Try.func3, Try.ntmps3
    go_wp2
    go_ret
    exact ⟨rfl, Below.refl _ _⟩
  have HI : Hid (IsRow .u8 w a len cap zs) := h
  clear h
  go_enter Try.func3, Try.ntmps3
  go_wp2_with fail
  refine (drawBookKnows_any w a len cap zs HI.out).mono ?_
  rintro e w1 ⟨va, ve, xs, es, s, rfl, hva, hve, hs20, -, -, -, -, hb1⟩
  have HM : Hid (s.size ≤ maxLen) := by show _ ≤ _; unfold maxLen; omega
  obtain ⟨b0, c0, rfl, -⟩ := hva.form
  obtain ⟨b1, c1, rfl, -⟩ := hve.form
  obtain ⟨w2, hw2⟩ : ∃ x, w1.alloc (.cells #[.slice b0 xs.length c0, .slice b1 es.length c1] 26) = x := ⟨_, rfl⟩
  have hb12 : Below w1.heap.size w1 w2 := by rw [← hw2]; exact (Below.refl w1.heap.size w1).alloc (Nat.le_refl _) _
  have HA : Hid (AffsAt w2 (.slice b0 xs.length c0) xs) := hva.below hb12
  have HE : Hid (EntsAt w2 (.slice b1 es.length c1) es) := hve.below hb12
  have HB2 : Hid (Below w.heap.size w w2) := hb1.trans (hb12.mono hb1.size)
  have hz2 : w1.heap.size < w2.heap.size := by rw [← hw2]; simp
  have hbx : w2.heap[w1.heap.size]? = some (.cells #[.slice b0 xs.length c0, .slice b1 es.length c1] 26 (0, 0)) := by rw [← hw2]; exact heap_alloc_last w1 _
  have HX : Hid (∀ w', Below w2.heap.size w2 w' → w'.cell? ⟨w1.heap.size, 0, none⟩ = some (.slice b0 xs.length c0) ∧ w'.cell? ⟨w1.heap.size, 1, none⟩ = some (.slice b1 es.length c1)) := fun w' hb => ⟨by rw [cell_of_row _ _ 0 _ _ _ ((hb.block _ hz2).trans hbx)]; rfl, by rw [cell_of_row _ _ 1 _ _ _ ((hb.block _ hz2).trans hbx)]; rfl⟩
  clear hva hve hb1 hb12 hbx
  obtain ⟨x0, x1⟩ := HX.out w2 (Below.refl _ _)
  go_wp2_with fail
  clear hw2
  refine (implBookKnows_any w2 _ _ xs es s HA.out HE.out HM.out).mono ?_
  rintro e w3 ⟨rfl, hb3⟩
  have HB3 : Hid (Below w2.heap.size w2 w3) := hb3
  clear hb3 x0 x1
  obtain ⟨x0, x1⟩ := HX.out w3 HB3.out
  obtain ⟨kn, hkn⟩ : ∃ b, knowsT xs es s = b := ⟨_, rfl⟩
  rw [hkn]
  go_wp2_with fail
  refine (specBookKnows_any w3 _ _ xs es s (HA.out.below HB3.out) (HE.out.below HB3.out)).mono ?_
  rintro e w4 ⟨rfl, hb4⟩
  have HB4 : Hid (Below w2.heap.size w2 w4) := HB3.out.trans (hb4.mono HB3.out.size)
  clear hb4 x0 x1
  obtain ⟨x0, x1⟩ := HX.out w4 HB4.out
  rw [hkn]
  go_wp2_with fail
  refine (implBookStems_any w4 _ _ xs es s (HA.out.below HB4.out) (HE.out.below HB4.out) HM.out).mono ?_
  rintro e w5 ⟨v5, rfl, ht5, hb5⟩
  have HB5 : Hid (Below w2.heap.size w2 w5) := HB4.out.trans (hb5.mono HB4.out.size)
  obtain ⟨a5, c5, rfl, -⟩ := ht5.at.form
  have hk5 : decide (0 < (stemsT xs es s).length) = kn := by rw [stems_knows, hkn]
  clear hb5 ht5 x0 x1
  obtain ⟨x0, x1⟩ := HX.out w5 HB5.out
  have hk6 : decide ((0 : Int) < ((stemsT xs es s).length : Int)) = kn := by rw [← hk5]; simp
  have hk7 : (kn == decide ((0 : Int) < ((stemsT xs es s).length : Int))) = true := by rw [hk6]; simp
  go_wp2_with fail
  refine (implBookWords_any w5 _ _ xs es (HA.out.below HB5.out) (HE.out.below HB5.out)).mono ?_
  rintro e w6 ⟨v6, rfl, ht6, hb6⟩
  have HT6 : Hid (TextsAt w6 v6 (wordsT xs es)) := ht6.at
  have HB6 : Hid (Below w2.heap.size w2 w6) := HB5.out.trans (hb6.mono HB5.out.size)
  clear ht6 hb6 x0 x1
  go_wp2_with fail
  refine (mdHas_any w6 v6 (wordsT xs es) s HT6.out).mono ?_
  rintro e w7 ⟨rfl, hb7⟩
  have HB7 : Hid (Below w.heap.size w w7) := HB2.out.trans ((HB6.out.trans (hb7.mono HB6.out.size)).mono HB2.out.size)
  rw [memT_hasW, words_knows, hkn]
  clear hb7
  go_wp2
  go_ret
  exact ⟨by simp, HB7.out⟩
end Go.Proofs.Ytlmaldlpjejppaa
