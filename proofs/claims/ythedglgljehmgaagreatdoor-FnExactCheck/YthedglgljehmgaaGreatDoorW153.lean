/-
  impl.BookKnows, impl.BookStems.
-/
import Derived.Test.YthedglgljehmgaaGreatDoorW152
import Derived.Test.YthedglgljehmgaaGreatDoorW129
import Derived.Test.YthedglgljehmgaaGreatDoorGW144
namespace Go.Proofs.YthedglgljehmgaaGreatDoor
open Go.RowKit Go.Maps Go.WideMaps
set_option linter.unusedVariables false
theorem places_T (xs : List Aff) (es : List (ByteArray × ByteArray)) (s : ByteArray) : placesOf (pairsT xs es) s = (if bookT xs es then atTo xs es s es.length else []).map (fun (n : Nat) => (n : Int)) := by
  unfold pairsT
  split
  · exact placesOf_pairs xs es s es.length
  · rfl
theorem knowsT_places (xs : List Aff) (es : List (ByteArray × ByteArray)) (s : ByteArray) : knowsT xs es s = decide (0 < (placesOf (pairsT xs es) s).length) := by
  rw [places_T, List.length_map]
  unfold knowsT
  cases bookT xs es with
  | true => simp [knowsTo_at]
  | false => simp
theorem stemsT_at (xs : List Aff) (es : List (ByteArray × ByteArray)) (s : ByteArray) : stemsT xs es s = (if bookT xs es then atTo xs es s es.length else []).map (stemAt es) := by
  unfold stemsT
  split
  · exact stemsTo_at xs es s es.length (Nat.le_refl _)
  · rfl
theorem stemsT_small (xs : List Aff) (es : List (ByteArray × ByteArray)) (s : ByteArray) : (stemsT xs es s).length ≤ 24 := by
  rw [stemsT_at, List.length_map]
  split
  · next h => exact Nat.le_trans (atTo_len xs es s es.length) (bookT_len h)
  · simp
theorem info_str153 : (Tryz.prog.info? 9).map (fun i => (i.zero, i.size, i.bytes)) = some (some (.string ⟨#[]⟩), 1, 16) := by kernel_rfl
set_option maxRecDepth 100000 in
set_option maxHeartbeats 2000000 in
theorem implBookKnows_any (w : World) (va ve : Value) (xs : List Aff) (es : List (ByteArray × ByteArray)) (s : ByteArray) (ha : AffsAt w va xs) (he : EntsAt w ve es) (hs : s.size ≤ maxLen) :
    Calls Tryz.prog 9 #[.agg #[va, ve], .string s] w fun e w' => e = .returned (.bool (knowsT xs es s)) ∧ Below w.heap.size w w' := by
  obtain ⟨a, cap, rfl, hc, hm⟩ := ha.form
  obtain ⟨a', cap', rfl, hc', hm'⟩ := he.form
  have HA : Hid (AffsAt w (.slice a xs.length cap) xs) := ha
  have HE : Hid (EntsAt w (.slice a' es.length cap') es) := he
  clear ha he
  have HK : Hid (knowsT xs es s = decide (0 < (placesOf (pairsT xs es) s).length)) := knowsT_places xs es s
  have hkey := keyOf_string_mk Tryz.underlying9 hs
  have HB0 : Hid (Below w.heap.size w (w.alloc (.cells #[.slice a xs.length cap, .slice a' es.length cap'] 26))) := (Below.refl _ _).alloc (Nat.le_refl _) _
  go_enter Tryz.func9, Tryz.ntmps9
  go_wp2_with fail
  refine (wordStems_any _ _ _ xs es (HA.out.below HB0.out) (HE.out.below HB0.out)).mono ?_
  rintro e w1 ⟨n, D, rfl, hg, hn, ht, hb1, hz⟩
  have HB1 : Hid (Below w.heap.size w w1) := HB0.out.trans (hb1.mono HB0.out.size)
  have HT : Hid (Told Tryz.prog 9 D (pairsT xs es)) := ht
  have HG : Hid (World.ownsGroups (H := Unit) w1 Tryz.prog 9 ((w.alloc (.cells #[.slice a xs.length cap, .slice a' es.length cap'] 26)).heap.size + 2) 3 .i64 ((w.alloc (.cells #[.slice a xs.length cap, .slice a' es.length cap'] 26)).heap.size + 1) n D) := hg
  clear hb1 ht hg
  rw [World.size_alloc] at HG hz ⊢
  have hnm : n < maxLen := by unfold maxLen; omega
  go_wp2_with (first
    | (at_lookup; refine wpList_lookup_groups _ rfl _ _ 56 rfl 9 60 3 .i64 stemKey Tryz.underlying56 (zero_ints152 _) (w.heap.size + 1 + 2) (w.heap.size + 1 + 1) n D rfl HG.out hnm _ _ rfl hkey ?_; intro v zs hat hoi hzl hback; obtain ⟨b0, cq, rfl⟩ := owns_form hoi.1)
    | go_in)
  go_ret
  have hzs := told_at HT.out hkey hoi hat
  refine ⟨ret_bool ?_, HB1.out⟩
  rw [HK.out, ← hzs]
end Go.Proofs.YthedglgljehmgaaGreatDoor
