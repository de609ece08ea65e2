/-
  impl.sortedOnce, over slices.Sort and slices.Compact.
-/
import Derived.Test.YthedglgljehmgaaGreatDoorShelf
import Derived.Test.YthedglgljehmgaaGreatDoorGW92
import Derived.Test.YthedglgljehmgaaGreatDoorM25
import Derived.Sort.OwnSorted
import Derived.Lib.OwnBridge
namespace Go.Proofs.YthedglgljehmgaaGreatDoor
open Go.RowKit Go.Sort
set_option linter.unusedVariables false
theorem grownBy_refl (w : World) (row : Option Nat) : w.grownBy w row := ⟨rfl, rfl, rfl, Nat.le_refl _, fun _ _ _ => rfl⟩
theorem grownBy_putRow {α : Type} [Inhabited α] {enc : α → Value} {w0 w : World} {g q : Nat} {d : Array α} (h : w0.grownBy w (some g)) : w0.grownBy (putRow enc (Sort.ahead w q) g 0 d) (some g) :=
  ⟨h.os, h.tape, h.output, by simpa [putRow, mapBlock, Sort.ahead] using h.size, fun k hk hne => by
    rw [← h.block k hk hne]
    simp [putRow, mapBlock, Sort.ahead, Array.getElem?_modify, show g ≠ k from fun e => hne (by rw [e])]⟩
set_option maxHeartbeats 2000000 in
theorem sortedOnce_any (lo : Nat) (zs : List (List UInt8)) (v : Value) (w : World) (h : w.ownsRow lo 9 1 v zs.length (zs.map encStr)) (hn : zs.length ≤ 2000000000) (hlo : lo ≤ w.heap.size) :
    Calls Tryz.prog 75 #[v] w fun e w' => ∃ v', e = .returned v' ∧ w'.ownsRow lo 9 1 v' (onceS zs).length ((onceS zs).map encStr) ∧ Below lo w w' ∧ w.grownBy w' v.ownBlock := by
  rcases h.2 with ⟨rfl, h0⟩ | ⟨g, cap, cur, rfl, hbase, hb, h1, h2, h3, h4⟩
  · have hz : zs = [] := List.length_eq_zero_iff.1 h0
    subst hz
    clear h h0
    go_enter Tryz.func75, Tryz.ntmps75
    go_wp2_with fail
    refine (Tryz.slices_Sort_string_none none 0 _).mono ?_
    rintro e w' ⟨rfl, rfl⟩
    go_wp2_with fail
    refine (Tryz.slices_Compact_string_empty none 0 _).mono ?_
    rintro e w'' ⟨rfl, rfl⟩
    go_wp2
    go_ret
    rw [onceS_nil]
    exact ⟨_, rfl, ⟨rfl, .inl ⟨rfl, rfl⟩⟩, Below.refl _ _, grownBy_refl _ _⟩
  · have hg : g < w.heap.size := (Array.getElem?_eq_some_iff.1 hb).1
    have HH : Hid (Holds encStr w g 0 zs.toArray) := holds_of_block hb (by simpa using h4)
    have hl2 : (zs.mergeSort fun x y => decide (x ≤ y)).length = zs.length := List.length_mergeSort zs
    generalize hq : (zs.mergeSort fun x y => decide (x ≤ y)) = qs at *
    have HQ : Hid ((zs.mergeSort fun x y => decide (x ≤ y)) = qs) := hq
    have HOW : Hid (∀ (n : Nat) (os : Array Obj), (grow (putRow encStr (Sort.ahead w n) g 0 qs.toArray) os).ownsRow lo 9 1 (.slice (some ⟨g, 0, none⟩) zs.length cap) zs.length (qs.map encStr)) := fun n os => ownsRow_sorted hl2 hbase hb h1 h2 h3
    have HL2 : Hid (qs.length = zs.length) := hl2
    have HC : Hid (zs.length ≤ cap) := h1
    have hss := Tryz.slices_Sort_string g 0 cap zs w HH.out hg (by omega)
    rw [hq] at hss
    clear h hb h2 h3 h4 hq hl2
    go_enter Tryz.func75, Tryz.ntmps75
    go_wp2_with fail
    refine hss.mono ?_
    rintro e w1 ⟨rfl, n, os, he⟩
    have HB1 : Hid (Below lo w w1) := by rw [he]; exact (Below.refl _ _).grown (grownBy_sorted _) hlo (fun j hj => by cases hj; exact hbase)
    have HG1 : Hid (w.grownBy w1 (some g)) := by rw [he]; exact grownBy_sorted _
    have HO1 : Hid (w1.ownsRow lo 9 1 (.slice (some ⟨g, 0, none⟩) zs.length cap) zs.length (qs.map encStr)) := by rw [he]; exact HOW.out n os
    have HH1 : Hid (Holds encStr w1 g 0 qs.toArray) := by
      rcases HO1.out.2 with ⟨h0, _⟩ | ⟨g', cap', cur', hv, _, hb, _, _, _, h4⟩
      · cases h0
      · cases hv
        exact holds_of_block hb (by rw [HL2.out]; simpa using h4)
    have hcc := Tryz.slices_Compact_string g 0 cap qs w1 HH1.out (by rw [HL2.out]; omega) (by rw [HL2.out]; omega)
    rw [HL2.out] at hcc
    clear he hss
    go_wp2_with fail
    refine hcc.mono ?_
    rintro e w2 ⟨rfl, q, he⟩
    have hle := Lib.compact_length_le qs
    rw [HL2.out] at hle
    have HO2 : Hid (w2.ownsRow lo 9 1 (.slice (some ⟨g, 0, none⟩) (Lib.compact qs).length cap) (Lib.compact qs).length ((Lib.compact qs).map encStr)) := by
      rw [he]
      have hc := Lib.ownsRow_putRow (q := q) (k := (Lib.compact qs).length) (ys := Lib.compact qs ++ List.replicate (zs.length - (Lib.compact qs).length) []) HO1.out (by simp; omega) (by omega)
      rw [List.take_left] at hc
      exact hc
    have HB2 : Hid (Below lo w w2) := by rw [he]; exact Lib.below_putRow HB1.out hbase
    have HG2 : Hid (w.grownBy w2 (some g)) := by rw [he]; exact grownBy_putRow HG1.out
    clear he hcc
    go_wp2
    go_ret
    refine ⟨_, rfl, ?_, HB2.out, HG2.out⟩
    unfold onceS
    rw [HQ.out]
    exact HO2.out
/-- What is one's own, in the words of marks. -/
theorem TextsOwn.of_owns {lo : Nat} {w : World} {v : Value} {zs : List (List UInt8)} (h : w.ownsRow lo 9 1 v zs.length (zs.map encStr)) (hz : ∀ x ∈ zs, x.length ≤ maxLen) : TextsOwn lo w v (zs.map fun x => ⟨x.toArray⟩) := by
  have hsz : ∀ (i : Nat) (x : ByteArray), (zs.map fun x => (⟨x.toArray⟩ : ByteArray))[i]? = some x → x.size ≤ maxLen := by
    intro i x hx
    have := List.mem_of_getElem? hx
    rw [List.mem_map] at this
    obtain ⟨z, hz', rfl⟩ := this
    rw [size_toArr]
    exact hz z hz'
  rcases h.2 with ⟨rfl, h0⟩ | ⟨g, cap, cur, rfl, hbase, hb, h1, h2, h3, h4⟩
  · have hz0 : zs = [] := List.length_eq_zero_iff.1 h0
    subst hz0
    exact ⟨none, 0, rfl, Nat.le_refl _, Nat.zero_le _, hsz, fun hn => absurd rfl hn⟩
  · refine ⟨some ⟨g, 0, none⟩, cap, by rw [List.length_map], by rw [List.length_map]; exact h1, h2, hsz, fun _ => ⟨g, cap, fun i => cur[i]?.getD (.bool false), rfl, hbase, by rw [List.length_map]; exact h1, ⟨cur, hb, by omega, fun i hi => ?_⟩, fun i x hx => ?_⟩⟩
    · have : i < cur.size := by omega
      simp [this]
    · have hi : i < zs.length := by have := (List.getElem?_eq_some_iff.1 hx).1; rwa [List.length_map] at this
      have e1 : (cur.toList.take (zs.length * 1))[i]? = (zs.map encStr)[i]? := by rw [h4]
      rw [List.getElem?_take_of_lt (by omega), Array.getElem?_toList] at e1
      show cur[i]?.getD (.bool false) = .string x
      rw [e1]
      rw [List.getElem?_map] at hx ⊢
      rw [List.getElem?_eq_getElem hi] at hx ⊢
      cases hx
      rfl
end Go.Proofs.YthedglgljehmgaaGreatDoor
