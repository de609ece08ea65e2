/-
  slices.DeleteFunc of texts; UserDrop of both.
-/
import Derived.Test.YtlmkilfffpdpfaaW415
import Derived.Test.YtlmkilfffpdpfaaGW460
import Derived.Test.YtlmkilfffpdpfaaM4
import Derived.Shelf.SlicesE.DeleteFunc
import Derived.Ground.SlgfProg
import Derived.Lib.SliceRun
import Derived.Laws.OwnMore
namespace Go.Proofs.Ytlmkilfffpdpfaa
open Go.RowKit
set_option linter.unusedVariables false
/-- All but one. -/
def dropW (xs : List ByteArray) (s : ByteArray) : List ByteArray := xs.filter fun x => !decide (x = s)
noncomputable def dropT (xs : List ByteArray) (s : ByteArray) : List ByteArray := if ownT xs = true then dropW xs s else []
noncomputable def dropB (xs : List ByteArray) (s : ByteArray) : Bool := ownT xs && decide ((dropW xs s).length < xs.length)
theorem dropW_len (xs : List ByteArray) (s : ByteArray) : (dropW xs s).length ≤ xs.length := List.length_filter_le _ _
theorem dropW_fit {xs : List ByteArray} {s : ByteArray} (hf : ∀ x ∈ xs, x.size ≤ maxLen) : ∀ x ∈ dropW xs s, x.size ≤ maxLen := fun x hx => hf x (List.mem_filter.1 hx).1
theorem ownT_len {xs : List ByteArray} (h : ownT xs = true) : xs.length ≤ 10 := by
  unfold ownT at h
  simp only [Bool.and_eq_true, decide_eq_true_eq] at h
  exact h.2
theorem dropT_small (xs : List ByteArray) (s : ByteArray) : (dropT xs s).length ≤ 1048576 := by
  unfold dropT
  split
  · next h => have h1 := ownT_len h; have h2 := dropW_len xs s; omega
  · exact Nat.zero_le _
def encT (x : ByteArray) : Value := .string x
theorem put_heap {α : Type} [Inhabited α] (enc : α → Value) (w : World) (g q : Nat) (d : Array α) {cur : Array Value} {t : TypeId} {fr : Nat × Nat} (h : w.heap[g]? = some (.cells cur t fr)) :
    (Go.Sort.putRow enc (Go.Sort.ahead w q) g 0 d).heap[g]? = some (.cells (Go.Sort.putCells enc 0 d cur) t fr) := by
  simp [Go.Sort.putRow, Go.Sort.mapBlock, Go.Sort.ahead, Array.getElem?_modify, h, Go.Sort.onCells]
theorem put_other {α : Type} [Inhabited α] (enc : α → Value) (w : World) (g q k : Nat) (d : Array α) (hk : k ≠ g) : (Go.Sort.putRow enc (Go.Sort.ahead w q) g 0 d).heap[k]? = w.heap[k]? := by
  simp [Go.Sort.putRow, Go.Sort.mapBlock, Go.Sort.ahead, Array.getElem?_modify, Ne.symm hk]
theorem put_below {α : Type} [Inhabited α] (enc : α → Value) (B : Nat) (w : World) (g q : Nat) (d : Array α) (hB : B ≤ g) (hs : B ≤ w.heap.size) : Below B w (Go.Sort.putRow enc (Go.Sort.ahead w q) g 0 d) :=
  ⟨rfl, rfl, rfl, by rw [Go.Sort.size_putRow]; exact Nat.le_refl _, fun k hk => put_other enc w g q k d (by omega)⟩
theorem put_owns {w : World} {lo g cap q : Nat} {t : TypeId} {n : Nat} {zs : List Value} {ys pad : List ByteArray} (h : w.ownsRow lo t 1 (.slice (some ⟨g, 0, none⟩) n cap) n zs) (hl : (ys ++ pad).length = n) :
    (Go.Sort.putRow encT (Go.Sort.ahead w q) g 0 (ys ++ pad).toArray).ownsRow lo t 1 (.slice (some ⟨g, 0, none⟩) ys.length cap) ys.length (texts ys) := by
  rcases h.2 with ⟨hv, _⟩ | ⟨g', cap', cur, hv, h1, h2, h3, h4, h5, h6⟩
  · cases hv
  · cases hv
    rw [List.length_append] at hl
    refine ⟨by simp [texts], .inr ⟨g, cap, Go.Sort.putCells encT 0 (ys ++ pad).toArray cur, rfl, h1, put_heap encT w g q _ h2, by omega, h4, ?_, ?_⟩⟩
    · rw [← h5]; simp [Go.Sort.putCells]
    · apply List.ext_getElem?
      intro i
      by_cases hi : i < ys.length
      · have hc : i < cur.size := by rw [h5]; omega
        rw [List.getElem?_take_of_lt (by omega), Array.getElem?_toList]
        simp only [Go.Sort.putCells, Array.getElem?_mapIdx]
        rw [Array.getElem?_eq_getElem hc]
        simp only [Option.map_some, Nat.zero_le, true_and, Nat.zero_add, Nat.sub_zero]
        rw [if_pos (by simp; omega)]
        have e : (ys ++ pad).toArray[i]! = ys[i] := by
          rw [getElem!_pos (ys ++ pad).toArray i (by simp; omega)]
          simp [List.getElem_append_left hi]
        rw [e]
        simp [texts, encT, hi]
      · rw [List.getElem?_eq_none (by simp; omega), List.getElem?_eq_none (by simp [texts]; omega)]
open Go.Shelf Go.Lib Go.Sort in
theorem user_same (s x : ByteArray) (B : Nat) (W : World) (hc : W.cell? ⟨B, 0, none⟩ = some (.string s)) :
    FnGives Try.prog 23 #[.pointer (some ⟨B, 0, none⟩)] #[.string x] (.bool (decide (x = s))) W := by
  show Calls Try.prog 23 #[.string x, .pointer (some ⟨B, 0, none⟩)] W _
  by_cases he : x = s
  · subst he
    go_enter Try.func23, Try.ntmps23
    go_wp2
    all_goals (go_ret; exact ⟨by simp_all, 0, rfl⟩)
  · have he2 : ¬ x.toList = s.toList := fun h => he (toList_inj' h)
    go_enter Try.func23, Try.ntmps23
    go_wp2
    all_goals (go_ret; exact ⟨by simp_all, 0, rfl⟩)
open Go.Shelf Go.Lib Go.Sort in
shelf_lay_g SlLaysH.n10 Slgf 10 at Try 22 as Try.layDel
open Go.Shelf Go.Lib Go.Sort in
set_option maxHeartbeats 1000000 in
theorem deleteText_any (w : World) (xs : List ByteArray) (s : ByteArray) (B g cap lo : Nat) (ho : w.ownsRow lo 9 1 (.slice (some ⟨g, 0, none⟩) xs.length cap) xs.length (texts xs)) (hlo : lo ≤ g) (hls : lo ≤ w.heap.size) (hB : B < w.heap.size) (hne : B ≠ g) (hc : w.cell? ⟨B, 0, none⟩ = some (.string s)) (hn : xs.length ≤ 1000) (hcap : xs.length ≤ cap) :
    Calls Try.prog 22 #[.slice (some ⟨g, 0, none⟩) xs.length cap, .func (.func 23) #[] #[.pointer (some ⟨B, 0, none⟩)]] w fun e w' =>
      e = .returned (.slice (some ⟨g, 0, none⟩) (dropW xs s).length cap) ∧ w'.ownsRow lo 9 1 (.slice (some ⟨g, 0, none⟩) (dropW xs s).length cap) (dropW xs s).length (texts (dropW xs s)) ∧ Below lo w w' := by
  have eg : ∀ args w, (callFunc 23 args).run Try.prog w = .ok (.enter 23 args) w := enters_of Try.func23 (by kernel_rfl) rfl
  have hH : Holds encT w g 0 xs.toArray := fun j hj => by
    have hj2 : j < xs.length := by simpa using hj
    refine ⟨?_, ?_⟩
    · rw [Nat.zero_add, ho.cellAt j (by omega), getElem!_pos xs.toArray j hj]
      simp [texts, encT, hj2]
    · rw [Nat.zero_add]; exact ho.frozenAt j
  have hp : PredAt Try.prog 23 #[.pointer (some ⟨B, 0, none⟩)] encT (fun x => decide (x = s)) w :=
    fun W x hb => user_same s x B W ((hb.cell (p := ⟨B, 0, none⟩) hB).trans hc)
  have hpo : PredOver Try.prog 23 #[.pointer (some ⟨B, 0, none⟩)] encT (fun x => decide (x = s)) g 0 xs.toArray.size w :=
    fun n os dk x _ => user_same s x B _ (by
      unfold sortWorld
      rw [cell?_grow _ _ _ (by show B < (putRow _ _ _ _ _).heap.size; rw [size_putRow]; exact hB), cell?_putRow_other _ _ g 0 _ _ (Or.inl hne)]
      exact hc)
  have hcon := AnyE.slices_DeleteFunc Try.layDel encT (fun _ => rfl) (fun x => decide (x = s)) 23 #[.pointer (some ⟨B, 0, none⟩)] eg ⟨#[]⟩ Try.zeroValue9 g 0 cap xs.toArray w hp hpo hH (by simp; omega) (by simpa using hcap)
  change Calls Try.prog 22 _ _ _ at hcon
  refine Calls.mono hcon ?_
  rintro e w' ⟨rfl, q, rfl⟩
  exact ⟨rfl, put_owns ho (by rw [List.length_append, List.length_replicate]; have := dropW_len xs s; show (dropW xs s).length + (xs.length - (dropW xs s).length) = _; omega), put_below _ _ _ _ _ _ hlo hls⟩
open Go.Lib in
set_option maxHeartbeats 400000 in
theorem indexNil_any (w : World) (f : Value) : Calls Try.prog 33 #[.slice none 0 0, f] w fun e w' => e = .returned (.int .i64 (-1)) ∧ w' = w := by
  go_enter Try.func33, Try.ntmps33
  go_wp2_with fail
  go_loopw [8] (fun i wr => i = .int .i64 0 ∧ wr = w) (fun _ _ => 0)
  case atStart => exact ⟨rfl, rfl⟩
  case round =>
    obtain ⟨rfl, rfl⟩ := hrel
    go_wp2
    go_ret
    exact ⟨rfl, rfl⟩
set_option maxHeartbeats 400000 in
theorem deleteNil_any (w : World) (f : Value) : Calls Try.prog 22 #[.slice none 0 0, f] w fun e w' => e = .returned (.slice none 0 0) ∧ w' = w := by
  go_enter Try.func22, Try.ntmps22
  go_wp2_with fail
  refine (indexNil_any _ _).mono ?_
  rintro e w1 ⟨rfl, hw⟩
  have hw2 := hw.symm
  clear hw
  subst hw2
  go_wp2
  go_ret
  exact ⟨rfl, rfl⟩
theorem owns_low450 {lo lo' : Nat} {w : World} {e : TypeId} {size n : Nat} {v : Value} {xs : List Value} (h : w.ownsRow lo e size v n xs) (hl : lo' ≤ lo) : w.ownsRow lo' e size v n xs := by
  refine ⟨h.1, ?_⟩
  rcases h.2 with h2 | ⟨g, cap, cur, hv, h1, h3⟩
  · exact .inl h2
  · exact .inr ⟨g, cap, cur, hv, Nat.le_trans hl h1, h3⟩
theorem nilRow450 (lo hi : Nat) (w : World) (a : Option Addr) : TextsRow lo hi w (.slice a 0 0) [] := ⟨⟨a, 0, rfl, Nat.le_refl _, Nat.zero_le _, fun hn => absurd rfl hn⟩, fun i x hx => by simp at hx⟩
theorem fits_of {xs : List ByteArray} {w : World} {v : Value} (h : TextsAt w v xs) : ∀ x ∈ xs, x.size ≤ maxLen := by
  intro x hx
  obtain ⟨i, hi, rfl⟩ := List.getElem_of_mem hx
  obtain ⟨b, off, cap, y, _, _, hy, hf, _⟩ := h.at (k := i) hi
  rw [List.getElem?_eq_getElem hi] at hy
  cases hy
  exact hf
theorem fits_at {xs : List ByteArray} (h : ∀ x ∈ xs, x.size ≤ maxLen) : ∀ (i : Nat) (x : ByteArray), xs[i]? = some x → x.size ≤ maxLen := fun i x hx => h x (List.mem_of_getElem? hx)
set_option maxRecDepth 100000 in
set_option maxHeartbeats 2000000 in
theorem implUserDrop_any (w : World) (v : Value) (xs : List ByteArray) (s : ByteArray) (h : TextsAt w v xs) :
    Calls Try.prog 9 #[v, .string s] w fun e w' => ∃ v', e = .returned (.tuple #[v', .bool (dropB xs s)]) ∧ TextsRow w.heap.size w'.heap.size w' v' (dropT xs s) ∧ Below w.heap.size w w' := by
  obtain ⟨a, cap, rfl, hc, hm⟩ := h.form
  have HA : Hid (TextsAt w (.slice a xs.length cap) xs) := h
  have HFT : Hid (∀ x ∈ xs, x.size ≤ maxLen) := fits_of h
  clear h
  unfold maxLen at hm
  have HB0 : Hid (Below w.heap.size w (w.alloc (.cells #[.string s] 9))) := (Below.refl _ _).alloc (Nat.le_refl _) _
  cases hown : ownT xs with
  | false =>
    have HD : Hid (dropT xs s = []) := if_neg (by rw [hown]; decide)
    have HE : Hid (dropB xs s = false) := by show _ = _; unfold dropB; rw [hown]; rfl
    go_enter Try.func9, Try.ntmps9
    go_wp2_with fail
    refine (ownOk_any _ _ xs (HA.out.below HB0.out)).mono ?_
    rintro e w1 ⟨rfl, hb1⟩
    rw [hown]
    have HB1 : Hid (Below w.heap.size w w1) := HB0.out.trans (hb1.mono (by simp <;> omega))
    clear hb1
    go_wp2
    refine bodyPost_ret (v := .tuple #[.slice none 0 0, .bool false]) (by simp [results, Try.results9, go_sem]) rfl ⟨_, by rw [HE.out], by rw [HD.out]; exact nilRow450 _ _ _ _, HB1.out⟩
  | true =>
    have h10 := ownT_len hown
    have HD : Hid (dropT xs s = dropW xs s) := if_pos hown
    have HE : Hid (dropB xs s = decide ((dropW xs s).length < xs.length)) := by show _ = _; unfold dropB; rw [hown]; rfl
    have HFD : Hid (∀ x ∈ dropW xs s, x.size ≤ maxLen) := dropW_fit HFT.out
    go_enter Try.func9, Try.ntmps9
    go_wp2_with fail
    refine (ownOk_any _ _ xs (HA.out.below HB0.out)).mono ?_
    rintro e w1 ⟨rfl, hb1⟩
    rw [hown]
    have HB1 : Hid (Below w.heap.size w w1) := HB0.out.trans (hb1.mono (by simp <;> omega))
    have c1 : w1.cell? ⟨w.heap.size, 0, none⟩ = some (.string s) := (hb1.cell (p := ⟨w.heap.size, 0, none⟩) (by simp)).trans (by simp [go_sem])
    have hz1 : w.heap.size < w1.heap.size := by have := hb1.size; simp at this; omega
    clear hb1 hown
    go_wp2_with fail
    refine (copyOfT_any _ _ xs (HA.out.below HB1.out) (by omega)).mono ?_
    rintro e w2 ⟨v2, rfl, ho2, hb2⟩
    have HB2 : Hid (Below w.heap.size w w2) := HB1.out.trans (hb2.mono (Nat.le_of_lt hz1))
    have c2 : w2.cell? ⟨w.heap.size, 0, none⟩ = some (.string s) := (hb2.cell (p := ⟨w.heap.size, 0, none⟩) hz1).trans c1
    have hz2 : w1.heap.size ≤ w2.heap.size := hb2.size
    have C2 : Hid (w2.cell? ⟨w.heap.size, 0, none⟩ = some (.string s)) := c2
    clear hb2 c1 c2
    have hcase := ho2.2
    rcases hcase with ⟨rfl, hx0⟩ | ⟨g, cap2, cur, rfl, hbase, _, hcp, hcm, _, _⟩
    · have hnil : xs = [] := List.length_eq_zero_iff.1 hx0
      subst hnil
      have HD0 : Hid (dropW [] s = []) := rfl
      go_wp2_with fail
      refine (deleteNil_any _ _).mono ?_
      rintro e w3 ⟨rfl, hw⟩
      have hw2 := hw.symm
      clear hw
      subst hw2
      go_wp2
      refine bodyPost_ret (v := .tuple #[.slice none 0 0, .bool false]) (by simp [results, Try.results9, go_sem]) rfl ⟨_, by rw [HE.out, HD0.out]; rfl, by rw [HD.out, HD0.out]; exact nilRow450 _ _ _ _, HB2.out⟩
    · have HO2 : Hid (w2.ownsRow w.heap.size 9 1 (.slice (some ⟨g, 0, none⟩) xs.length cap2) xs.length (texts xs)) := owns_low450 ho2 (Nat.le_of_lt hz1)
      clear ho2
      have hne : w.heap.size ≠ g := by omega
      have hcm2 := hcm
      unfold maxLen at hcm2
      have HCL : Hid (Calls Try.prog 22 #[.slice (some ⟨g, 0, none⟩) xs.length cap2, .func (.func 23) #[] #[.pointer (some ⟨w.heap.size, 0, none⟩)]] w2 fun e w' =>
        e = .returned (.slice (some ⟨g, 0, none⟩) (dropW xs s).length cap2) ∧ w'.ownsRow w.heap.size 9 1 (.slice (some ⟨g, 0, none⟩) (dropW xs s).length cap2) (dropW xs s).length (texts (dropW xs s)) ∧ Below w.heap.size w2 w') := deleteText_any w2 xs s w.heap.size g cap2 w.heap.size HO2.out (by omega) (by omega) (by omega) hne C2.out (by omega) hcp
      have hdl := dropW_len xs s
      go_wp2_with fail
      refine HCL.out.mono ?_
      rintro e w3 ⟨rfl, ho3, hb3⟩
      have HR : Hid (TextsRow w.heap.size w3.heap.size w3 (.slice (some ⟨g, 0, none⟩) (dropW xs s).length cap2) (dropW xs s)) := textsRow_of_owns ho3 rfl (fits_at HFD.out)
      have HB3 : Hid (Below w.heap.size w w3) := HB2.out.trans hb3
      clear ho3 hb3
      obtain ⟨D, hDl⟩ : ∃ n, (dropW xs s).length = n := ⟨_, rfl⟩
      rw [hDl] at HR HE hdl ⊢
      clear hDl
      by_cases hlt : (D : Int) < xs.length
      · have HE2 : Hid (dropB xs s = true) := by show _ = _; rw [HE.out]; exact decide_eq_true (by omega)
        go_wp2
        refine bodyPost_ret (v := .tuple #[.slice (some ⟨g, 0, none⟩) D cap2, .bool true]) (by simp [results, Try.results9, go_sem]) rfl ⟨_, by rw [HE2.out], by rw [HD.out]; exact HR.out, HB3.out⟩
      · have HE2 : Hid (dropB xs s = false) := by show _ = _; rw [HE.out]; exact decide_eq_false (by omega)
        go_wp2
        refine bodyPost_ret (v := .tuple #[.slice (some ⟨g, 0, none⟩) D cap2, .bool false]) (by simp [results, Try.results9, go_sem] <;> omega) rfl ⟨_, by rw [HE2.out], by rw [HD.out]; exact HR.out, HB3.out⟩
theorem dropTo_succ {xs : List ByteArray} {s x : ByteArray} {k : Nat} (h : xs[k]? = some x) : dropW (xs.take (k + 1)) s = dropW (xs.take k) s ++ (if x = s then [] else [x]) := by
  unfold dropW
  rw [List.take_add_one, h, List.filter_append]
  congr 1
  by_cases he : x = s
  · simp [he]
  · simp [he]
theorem dropTo_len (xs : List ByteArray) (s : ByteArray) (k : Nat) : (dropW (xs.take k) s).length ≤ k := by have h1 := dropW_len (xs.take k) s; rw [List.length_take] at h1; omega
set_option maxRecDepth 100000 in
set_option maxHeartbeats 2000000 in
theorem specUserDrop_any (w : World) (v : Value) (xs : List ByteArray) (s : ByteArray) (h : TextsAt w v xs) :
    Calls Try.prog 12 #[v, .string s] w fun e w' => ∃ v', e = .returned (.tuple #[v', .bool (dropB xs s)]) ∧ TextsAt w' v' (dropT xs s) ∧ Below w.heap.size w w' := by
  obtain ⟨a, cap, rfl, hc, hm⟩ := h.form
  have HA : Hid (TextsAt w (.slice a xs.length cap) xs) := h
  have HFT : Hid (∀ x ∈ xs, x.size ≤ maxLen) := fits_of h
  clear h
  unfold maxLen at hm
  obtain ⟨i3, hi3, hz3, hs3, hb3⟩ := info_parts Try.info_str405
  have HB0 : Hid (Below w.heap.size w (w.alloc (.cells #[] 9))) := (Below.refl _ _).alloc (Nat.le_refl _) _
  have HO0 : Hid ((w.alloc (.cells #[] 9)).ownsRow w.heap.size 9 1 (.slice (some ⟨w.heap.size, 0, none⟩) 0 0) 0 []) := owns_alone (heap_alloc_last w _) (Nat.le_refl _)
  cases hown : ownT xs with
  | false =>
    have HD : Hid (dropT xs s = []) := if_neg (by rw [hown]; decide)
    have HE : Hid (dropB xs s = false) := by show _ = _; unfold dropB; rw [hown]; rfl
    go_enter Try.func12, Try.ntmps12
    go_wp2_with fail
    refine (l10Own_any _ _ xs (HA.out.below HB0.out)).mono ?_
    rintro e w1 ⟨rfl, hb1⟩
    rw [hown]
    have HB1 : Hid (Below w.heap.size w w1) := HB0.out.trans (hb1.mono (by simp <;> omega))
    clear hb1
    go_wp2
    refine bodyPost_ret (v := .tuple #[.slice (some ⟨w.heap.size, 0, none⟩) 0 0, .bool false]) (by simp [results, Try.results12, go_sem]) rfl ⟨_, by rw [HE.out], by rw [HD.out]; exact (nilRow450 0 0 _ _).at, HB1.out⟩
  | true =>
    have h10 := ownT_len hown
    have HD : Hid (dropT xs s = dropW xs s) := if_pos hown
    have HE : Hid (dropB xs s = decide ((dropW xs s).length < xs.length)) := by show _ = _; unfold dropB; rw [hown]; rfl
    have HFD : Hid (∀ x ∈ dropW xs s, x.size ≤ maxLen) := dropW_fit HFT.out
    go_enter Try.func12, Try.ntmps12
    go_wp2_with fail
    refine (l10Own_any _ _ xs (HA.out.below HB0.out)).mono ?_
    rintro e w1 ⟨rfl, hb1⟩
    rw [hown]
    have HB1 : Hid (Below w.heap.size w w1) := HB0.out.trans (hb1.mono (by simp <;> omega))
    have HO1 : Hid (w1.ownsRow w.heap.size 9 1 (.slice (some ⟨w.heap.size, 0, none⟩) 0 0) 0 []) := owns_below HO0.out hb1
    have hz1 : w.heap.size < w1.heap.size := by have := hb1.size; simp at this; omega
    clear hb1 hown
    go_wp2_with fail
    go_loopw [6, 7] (fun o i wr => ∃ (k : Nat) (v0 : Value), k ≤ xs.length ∧ o = v0 ∧ i = .int .i64 k ∧ wr.ownsRow w.heap.size 9 1 v0 (dropW (xs.take k) s).length (texts (dropW (xs.take k) s)) ∧ Below w.heap.size w wr) (fun _ i _ => xs.length - (intOf i).toNat)
    case atStart => exact ⟨0, _, Nat.zero_le _, rfl, rfl, HO1.out, HB1.out⟩
    case round =>
      obtain ⟨k, v0, hk, hov, rfl, ho, hb⟩ := hrel
      have hsl := dropTo_len xs s k
      obtain ⟨SS, hSS⟩ : ∃ SS, dropW (xs.take k) s = SS := ⟨_, rfl⟩
      have HSS : Hid (dropW (xs.take k) s = SS) := hSS
      rw [hSS] at ho hsl
      obtain ⟨b1, q1, hv0⟩ := owns_form ho
      subst hv0
      subst hov
      have HO : Hid (wr.ownsRow w.heap.size 9 1 (.slice b1 SS.length q1) SS.length (texts SS)) := ho
      have HB : Hid (Below w.heap.size w wr) := hb
      have hzr := hb.size
      clear ho hb hSS
      by_cases hlt : k < xs.length
      · have i1 : (k : Int) < (xs.length : Int) := by omega
        obtain ⟨b, off, cap1, x, hv, hbl, hx, hxf, e0⟩ := (HA.out.below HB.out).at hlt
        cases hv
        have HNX : Hid (dropW (xs.take (k + 1)) s = SS ++ (if x = s then [] else [x])) := by show _ = _; rw [dropTo_succ hx, HSS.out]
        clear hx hxf
        by_cases he : x = s
        · have HN2 : Hid (dropW (xs.take (k + 1)) s = SS) := by show _ = _; rw [HNX.out, if_pos he, List.append_nil]
          have he2 : x.toList = s.toList := by rw [he]
          clear he
          go_wp2
          go_roundw
          case rel => exact ⟨k + 1, _, by omega, rfl, by go_num, by rw [HN2.out]; exact HO.out, HB.out⟩
          case measure => simp [intOf]; omega
        · have HN2 : Hid (dropW (xs.take (k + 1)) s = SS ++ [x]) := by show _ = _; rw [HNX.out, if_neg he]
          have he2 : (x.toList == s.toList) = false := beq_eq_false_iff_ne.2 fun h => he (toList_inj' h)
          clear he
          go_wp2_with (at_builtin; refine wpList_append_own _ rfl _ _ 23 rfl w.heap.size 9 i3 (.string ⟨#[]⟩) 1 16 Try.underlying23 hi3 hz3 hs3 hb3 rfl (by decide) _ _ _ rfl (HO.out.alloc _) ⟨_, 0, none⟩ 1 1 [.string x] rfl rfl (cell_one_new _ _ _) (one_text x) (by unfold maxLen; omega) (by omega) (by rw [World.size_alloc]; omega) ?_; intro v' w5 hown hgrow hnil)
          go_roundw
          case rel =>
            refine ⟨k + 1, _, by omega, rfl, by go_num, ?_, Below.grown (HB.out.alloc hzr _) hgrow (by rw [World.size_alloc]; omega) (fun k' hk' => (HO.out.lt k' hk').1)⟩
            rw [HN2.out, List.length_append, texts_append]
            exact hown
          case measure => simp [intOf]; omega
      · have i1 : ¬ (k : Int) < (xs.length : Int) := by omega
        have hke : k = xs.length := by omega
        subst hke
        have HS2 : Hid (dropW xs s = SS) := by show _ = _; rw [← HSS.out, List.take_length]
        have HT : Hid (TextsAt wr (.slice b1 SS.length q1) SS) := (textsRow_of_owns HO.out rfl (fits_at (by rw [← HS2.out]; exact HFD.out))).at
        have HE3 : Hid (dropB xs s = decide (SS.length < xs.length)) := by show _ = _; rw [HE.out, HS2.out]
        by_cases hl2 : (SS.length : Int) < xs.length
        · have HE2 : Hid (dropB xs s = true) := by show _ = _; rw [HE3.out]; exact decide_eq_true (by omega)
          go_wp2
          refine bodyPost_ret (v := .tuple #[.slice b1 SS.length q1, .bool true]) (by simp [results, Try.results12, go_sem]) rfl ⟨_, by rw [HE2.out], by rw [HD.out, HS2.out]; exact HT.out, HB.out⟩
        · have HE2 : Hid (dropB xs s = false) := by show _ = _; rw [HE3.out]; exact decide_eq_false (by omega)
          go_wp2
          refine bodyPost_ret (v := .tuple #[.slice b1 SS.length q1, .bool false]) (by simp [results, Try.results12, go_sem] <;> omega) rfl ⟨_, by rw [HE2.out], by rw [HD.out, HS2.out]; exact HT.out, HB.out⟩
end Go.Proofs.Ytlmkilfffpdpfaa
