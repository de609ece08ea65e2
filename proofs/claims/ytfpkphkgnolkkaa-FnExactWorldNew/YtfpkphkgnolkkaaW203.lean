/-
  WorldNew.
-/
import Derived.Test.YtfpkphkgnolkkaaW202
namespace Go.Proofs.Ytfpkphkgnolkkaa
open Go.RowKit
set_option linter.unusedVariables false
theorem wpAny_takeD3 {P : Program} {md : Region.Mode} {ops : Array Oper} {Q : Exit → Act → World → Prop} {i d : Nat} {oi : Oper} {v : Value} {fuel : Nat} {listed : Array Bool} {a : Act} {w : World} (hi : ops[i]? = some oi)
    (hs : Region.noSelect ops = true) (hf : Region.free md ops listed i = true) (hr : (Region.ready md ops listed).contains i = true)
    (hQ : ∀ c a w, Q (.panic c) (a.put oi.dst v) w → Q (.panic c) a w) (hy : Yields P ops oi v a) (hd : oi.dst = some d)
    (h : wpAny P md ops Q fuel (listed.setIfInBounds i true) (a.put (some d) v) w) : wpAny P md ops Q (fuel + 1) listed a w :=
  wpAny_take hi hs hf hr hQ hy (by rw [hd]; exact h)
def newRow (s : ByteArray) : List Value := [.string s, .bool true, .int .i64 0, .slice none 0 0, .slice none 0 0, .string ⟨#[]⟩]
def cliCells (s : ByteArray) : Nat → List Value
  | 0 => []
  | k + 1 => cliCells s k ++ newRow s
theorem cliCells_len (s : ByteArray) : ∀ k, (cliCells s k).length = k * 6
  | 0 => rfl
  | k + 1 => by rw [cliCells, List.length_append, cliCells_len s k]; simp [newRow]; omega
theorem cliCells_at (s : ByteArray) : ∀ (k j i : Nat), j < k → i < 6 → (cliCells s k)[j * 6 + i]? = some (newF s j i)
  | 0, j, i, h, _ => absurd h (by omega)
  | k + 1, j, i, h, hi => by
    rw [cliCells]
    by_cases e : j = k
    · subst e
      rw [List.getElem?_append_right (by rw [cliCells_len]; omega), cliCells_len, show j * 6 + i - j * 6 = i by omega]
      have : i = 0 ∨ i = 1 ∨ i = 2 ∨ i = 3 ∨ i = 4 ∨ i = 5 := by omega
      rcases this with rfl | rfl | rfl | rfl | rfl | rfl <;> rfl
    · rw [List.getElem?_append_left (by rw [cliCells_len]; omega)]
      exact cliCells_at s k j i (by omega) hi
theorem cli_of_owns {w : World} {lo : Nat} {v : Value} {n : Nat} {s : ByteArray} (h : w.ownsRow lo 38 6 v n (cliCells s n)) : CliOwn lo w.heap.size w v n (newF s) :=
  rowOwn_of_owns h fun f hf j i hj hi => hf _ _ (cliCells_at s n j i hj hi)
/-- Whether a world may begin, and what it is then. -/
def nOk (s : ByteArray) (n : Int) : Bool := keyT s && (decide (1 ≤ n) && decide (n ≤ 3))
def nS (s : ByteArray) (n : Int) : ByteArray := if nOk s n then s else ⟨#[]⟩
def nB (s : ByteArray) (n : Int) : Nat := if nOk s n then 1 else 0
def nN (s : ByteArray) (n : Int) : Nat := if nOk s n then n.toNat else 0
theorem nN_le (s : ByteArray) (n : Int) : nN s n ≤ 3 := by
  unfold nN
  split
  · next h =>
    simp only [nOk, Bool.and_eq_true, decide_eq_true_eq] at h
    omega
  · omega
theorem noWorld {lo hi : Nat} (w : World) {s : ByteArray} {n : Int} (h : nOk s n = false) : WldOwn lo hi w (.agg #[.string ⟨#[]⟩, .slice none 0 0, .slice none 0 0, .slice none 0 0]) (nS s n) (nB s n) (nN s n) (newF s) := by
  unfold nS nB nN
  rw [h]
  exact ⟨_, _, rfl, .inl ⟨rfl, rfl⟩, ⟨none, 0, rfl, Nat.le_refl _, Nat.zero_le _, fun hn => absurd rfl hn⟩⟩
theorem aWorld {lo : Nat} {w : World} {s : ByteArray} {n : Int} {B : Nat} {vc : Value} (h : nOk s n = true) (hB : w.heap[B]? = some (.cells #[.slice none 0 0, .slice none 0 0] 34 (0, 0))) (hc : w.ownsRow lo 38 6 vc n.toNat (cliCells s n.toNat)) : WldOwn lo w.heap.size w (.agg #[.string s, .slice (some ⟨B, 0, none⟩) 1 1, .slice none 0 0, vc]) (nS s n) (nB s n) (nN s n) (newF s) := by
  unfold nS nB nN
  rw [h]
  exact ⟨_, _, rfl, .inr ⟨rfl, B, rfl, hB⟩, cli_of_owns hc⟩
theorem set_box4 {w : World} {B : Nat} {t : TypeId} {a b c d : Value} (h : w.heap[B]? = some (.cells #[a, b, c, d] t (0, 0))) (v : Value) : (w.setCell ⟨B, 3, none⟩ v).heap[B]? = some (.cells #[a, b, c, v] t (0, 0)) := by
  have hlt := lt_of_block h
  unfold World.setCell
  rw [Array.getElem?_modify]
  simp [h]
theorem heap_oth (w : World) {B g o : Nat} (u : Value) (h : B ≠ g) : (w.setCell ⟨g, o, none⟩ u).heap[B]? = w.heap[B]? := by
  unfold World.setCell
  rw [Array.getElem?_modify]
  simp [show ¬ g = B from fun e => h e.symm]
theorem Try.info_cli203 : (Try.prog.info? 38).map (fun i => (i.zero, i.size, i.bytes)) = some (some (.agg #[.string ⟨#[]⟩, .bool false, .int .i64 0, .slice none 0 0, .slice none 0 0, .string ⟨#[]⟩]), 6, 96) := by kernel_rfl
theorem Try.info_book203 : (Try.prog.info? 34).map (fun i => (i.zero, i.size, i.bytes)) = some (some (.agg #[.slice none 0 0, .slice none 0 0]), 2, 48) := by kernel_rfl
theorem made_book (w : World) : (Instr.makeSlice 22 (.int .i64 1) (.int .i64 1)).run Try.prog w = .ok (.slice (some ⟨w.heap.size, 0, none⟩) 1 1) (w.alloc (.cells #[.slice none 0 0, .slice none 0 0] 34)) := by
  obtain ⟨i, hi, hz, hs, hb⟩ := info_parts Try.info_book203
  rw [run_makeSlice w 22 34 i _ Try.underlying22 hi hz .i64 .i64 1 1 (by omega) (by omega) (by rw [hs]; decide) (by rw [hb]; decide) (by omega), hs]
  have h : madeCells (Value.agg #[.slice none 0 0, .slice none 0 0]).cells (Int.toNat 1 * 2) = #[.slice none 0 0, .slice none 0 0] := by
    apply Array.ext
    · rw [size_madeCells]; rfl
    · intro i h1 h2
      rw [size_madeCells] at h1
      have h3 : i = 0 ∨ i = 1 := by have : Int.toNat 1 * 2 = 2 := rfl; omega
      rcases h3 with rfl | rfl <;> simp [madeCells, Value.cells]
  rw [h]
  rfl
set_option maxHeartbeats 400000 in
theorem implClientNew_is (w : World) (s : ByteArray) (hs : s.size ≤ maxLen) (hk : keyT s = true) : Calls Try.prog 13 #[.string s] w fun e w' => e = .returned (.agg #[.string s, .bool true, .int .i64 0, .slice none 0 0, .slice none 0 0, .string ⟨#[]⟩]) ∧ Below w.heap.size w w' := by
  go_enter Try.func13, Try.ntmps13
  go_wp2_with fail
  refine (keyOk_any _ _ hs).mono ?_
  rintro e w1 ⟨rfl, rfl⟩
  rw [hk]
  go_wp2
  refine bodyPost_ret (v := .agg #[.string s, .bool true, .int .i64 0, .slice none 0 0, .slice none 0 0, .string ⟨#[]⟩]) (by simp [results, Try.results13, go_sem]) rfl ⟨rfl, ?_⟩
  repeat refine Below.setCell ?_ (Nat.le_refl _) _
  exact (Below.refl _ _).alloc (Nat.le_refl _) _
set_option maxHeartbeats 400000 in
theorem specClientNew_is (w : World) (s : ByteArray) (hs : s.size ≤ maxLen) (hk : keyT s = true) : Calls Try.prog 11 #[.string s] w fun e w' => e = .returned (.agg #[.string s, .bool true, .int .i64 0, .slice none 0 0, .slice none 0 0, .string ⟨#[]⟩]) ∧ Below w.heap.size w w' := by
  go_enter Try.func11, Try.ntmps11
  go_wp2_with fail
  refine (l6Key_any _ _ hs).mono ?_
  rintro e w1 ⟨rfl, rfl⟩
  rw [hk]
  go_wp2
  refine bodyPost_ret (v := .agg #[.string s, .bool true, .int .i64 0, .slice none 0 0, .slice none 0 0, .string ⟨#[]⟩]) (by simp [results, Try.results11, go_sem]) rfl ⟨rfl, ?_⟩
  repeat refine Below.setCell ?_ (Nat.le_refl _) _
  exact (Below.refl _ _).alloc (Nat.le_refl _) _
set_option maxRecDepth 100000 in
set_option maxHeartbeats 2000000 in
theorem implWorldNew_any (w : World) (s : ByteArray) (n : Int) (hs : s.size ≤ maxLen) :
    Calls Try.prog 5 #[.string s, .int .i64 n] w fun e w' => ∃ v, e = .returned v ∧ WldOwn w.heap.size w'.heap.size w' v (nS s n) (nB s n) (nN s n) (newF s) ∧ Below w.heap.size w w' := by
  obtain ⟨i6, hi6, hz6, hs6, hb6⟩ := info_parts Try.info_cli203
  cases hk : keyT s with
  | false =>
    have HNO : Hid (nOk s n = false) := by show _ = _; unfold nOk; rw [hk]; rfl
    go_enter Try.func5, Try.ntmps5
    go_wp2_with fail
    refine (keyOk_any _ _ hs).mono ?_
    rintro e w1 ⟨rfl, rfl⟩
    rw [hk]
    go_wp2
    refine bodyPost_ret (v := .agg #[.string ⟨#[]⟩, .slice none 0 0, .slice none 0 0, .slice none 0 0]) (by simp [results, Try.results5, go_sem]) rfl ⟨_, rfl, noWorld _ HNO.out, ?_⟩
    repeat refine Below.setCell ?_ (Nat.le_refl _) _
    exact (Below.refl _ _).alloc (Nat.le_refl _) _
  | true =>
   have HK : Hid (keyT s = true) := hk
   by_cases h1 : n < 1
   · have HNO : Hid (nOk s n = false) := by show _ = _; unfold nOk; rw [hk, show decide (1 ≤ n) = false from decide_eq_false (by omega)]; rfl
     go_enter Try.func5, Try.ntmps5
     go_wp2_with fail
     refine (keyOk_any _ _ hs).mono ?_
     rintro e w1 ⟨rfl, rfl⟩
     rw [hk]
     go_wp2
     refine bodyPost_ret (v := .agg #[.string ⟨#[]⟩, .slice none 0 0, .slice none 0 0, .slice none 0 0]) (by simp [results, Try.results5, go_sem]) rfl ⟨_, rfl, noWorld _ HNO.out, ?_⟩
     repeat refine Below.setCell ?_ (Nat.le_refl _) _
     exact (Below.refl _ _).alloc (Nat.le_refl _) _
   · by_cases h3 : 3 < n
     · have HNO : Hid (nOk s n = false) := by show _ = _; unfold nOk; rw [hk, show decide (n ≤ 3) = false from decide_eq_false (by omega), Bool.and_false]; rfl
       go_enter Try.func5, Try.ntmps5
       go_wp2_with fail
       refine (keyOk_any _ _ hs).mono ?_
       rintro e w1 ⟨rfl, rfl⟩
       rw [hk]
       go_wp2
       refine bodyPost_ret (v := .agg #[.string ⟨#[]⟩, .slice none 0 0, .slice none 0 0, .slice none 0 0]) (by simp [results, Try.results5, go_sem]) rfl ⟨_, rfl, noWorld _ HNO.out, ?_⟩
       repeat refine Below.setCell ?_ (Nat.le_refl _) _
       exact (Below.refl _ _).alloc (Nat.le_refl _) _
     · have HNO : Hid (nOk s n = true) := by show _ = _; unfold nOk; rw [hk, show decide (1 ≤ n) = true from decide_eq_true (by omega), show decide (n ≤ 3) = true from decide_eq_true (by omega)]; rfl
       obtain ⟨N, rfl⟩ : ∃ N : Nat, n = (N : Int) := ⟨n.toNat, by omega⟩
       have hN : N ≤ 3 := by omega
       have hmk := made_book
       go_enter Try.func5, Try.ntmps5
       go_wp2_with fail
       refine (keyOk_any _ _ hs).mono ?_
       rintro e w1 ⟨rfl, he⟩
       rw [he, hk]
       clear he
       go_wp2
       obtain ⟨w0, hw0⟩ : ∃ x, ((w.alloc (.cells #[.string ⟨#[]⟩, .slice none 0 0, .slice none 0 0, .slice none 0 0] 26)).alloc (.cells #[.slice none 0 0, .slice none 0 0] 34)).alloc (.cells #[.string s, .slice (some ⟨w.heap.size + 1, 0, none⟩) 1 1, .slice none 0 0, .slice none 0 0] 26) = x := ⟨_, rfl⟩
       have HL0 : Hid (Below w.heap.size w w0) := by rw [← hw0]; exact (((Below.refl _ _).alloc (Nat.le_refl _) _).alloc (by simp) _).alloc (by simp; omega) _
       have HR0 : Hid (w0.heap[w.heap.size]? = some (.cells #[.string ⟨#[]⟩, .slice none 0 0, .slice none 0 0, .slice none 0 0] 26 (0, 0))) := by
         show _ = _
         rw [← hw0]
         have h := (((Below.refl _ (w.alloc (.cells #[.string ⟨#[]⟩, .slice none 0 0, .slice none 0 0, .slice none 0 0] 26))).alloc (Nat.le_refl _) (.cells #[.slice none 0 0, .slice none 0 0] 34)).alloc (by simp) (.cells #[.string s, .slice (some ⟨w.heap.size + 1, 0, none⟩) 1 1, .slice none 0 0, .slice none 0 0] 26)).block w.heap.size (by simp)
         exact h.trans (heap_alloc_last w _)
       have HB0 : Hid (w0.heap[w.heap.size + 1]? = some (.cells #[.slice none 0 0, .slice none 0 0] 34 (0, 0))) := by
         show _ = _
         rw [← hw0]
         have h := ((Below.refl _ ((w.alloc (.cells #[.string ⟨#[]⟩, .slice none 0 0, .slice none 0 0, .slice none 0 0] 26)).alloc (.cells #[.slice none 0 0, .slice none 0 0] 34))).alloc (Nat.le_refl _) (.cells #[.string s, .slice (some ⟨w.heap.size + 1, 0, none⟩) 1 1, .slice none 0 0, .slice none 0 0] 26)).block (w.heap.size + 1) (by simp)
         have h2 := heap_alloc_last (w.alloc (.cells #[.string ⟨#[]⟩, .slice none 0 0, .slice none 0 0, .slice none 0 0] 26)) (.cells #[.slice none 0 0, .slice none 0 0] 34)
         rw [World.size_alloc] at h2
         exact h.trans h2
       have HX0 : Hid (w0.heap[w.heap.size + 1 + 1]? = some (.cells #[.string s, .slice (some ⟨w.heap.size + 1, 0, none⟩) 1 1, .slice none 0 0, .slice none 0 0] 26 (0, 0))) := by
         show _ = _
         rw [← hw0]
         have h2 := heap_alloc_last ((w.alloc (.cells #[.string ⟨#[]⟩, .slice none 0 0, .slice none 0 0, .slice none 0 0] 26)).alloc (.cells #[.slice none 0 0, .slice none 0 0] 34)) (.cells #[.string s, .slice (some ⟨w.heap.size + 1, 0, none⟩) 1 1, .slice none 0 0, .slice none 0 0] 26)
         rw [World.size_alloc, World.size_alloc] at h2
         exact h2
       have hz0 : w0.heap.size = w.heap.size + 1 + 1 + 1 := by rw [← hw0]; simp
       rw [hw0]
       clear hw0
       go_loopw [22] (fun i wr => ∃ (k : Nat) (vc : Value), k ≤ N ∧ i = .int .i64 k ∧ wr.heap[w.heap.size]? = some (.cells #[.string ⟨#[]⟩, .slice none 0 0, .slice none 0 0, .slice none 0 0] 26 (0, 0)) ∧ wr.heap[w.heap.size + 1]? = some (.cells #[.slice none 0 0, .slice none 0 0] 34 (0, 0)) ∧ wr.heap[w.heap.size + 1 + 1]? = some (.cells #[.string s, .slice (some ⟨w.heap.size + 1, 0, none⟩) 1 1, .slice none 0 0, vc] 26 (0, 0)) ∧ wr.ownsRow (w.heap.size + 1 + 1 + 1) 38 6 vc k (cliCells s k) ∧ Below w.heap.size w wr) (fun i _ => N - (intOf i).toNat)
       case atStart => exact ⟨0, .slice none 0 0, Nat.zero_le _, rfl, HR0.out, HB0.out, HX0.out, World.ownsRow_nil _ _ _ _, HL0.out⟩
       case round =>
         obtain ⟨k, vc, hkN, rfl, hr, hbk, hx, hown, hl⟩ := hrel
         have HRb : Hid (wr.heap[w.heap.size]? = some (.cells #[.string ⟨#[]⟩, .slice none 0 0, .slice none 0 0, .slice none 0 0] 26 (0, 0))) := hr
         have HBk : Hid (wr.heap[w.heap.size + 1]? = some (.cells #[.slice none 0 0, .slice none 0 0] 34 (0, 0))) := hbk
         have HX : Hid (wr.heap[w.heap.size + 1 + 1]? = some (.cells #[.string s, .slice (some ⟨w.heap.size + 1, 0, none⟩) 1 1, .slice none 0 0, vc] 26 (0, 0))) := hx
         have HO : Hid (wr.ownsRow (w.heap.size + 1 + 1 + 1) 38 6 vc k (cliCells s k)) := hown
         have HL : Hid (Below w.heap.size w wr) := hl
         have hzX : w.heap.size + 1 + 1 < wr.heap.size := lt_of_block hx
         obtain ⟨av, cv, hvc⟩ := owns_form hown
         subst hvc
         obtain ⟨vc, hvc⟩ : ∃ x, Value.slice av k cv = x := ⟨_, rfl⟩
         rw [hvc] at HX HO
         have e3 : wr.cell? ⟨w.heap.size + 1 + 1, 3, none⟩ = some vc := by rw [cell_of_row _ _ 3 _ _ _ HX.out]; rfl
         clear hr hbk hx hown hl
         by_cases hlt : k < N
         · have i1 : (k : Int) < (N : Int) := by omega
           clear hvc
           go_wp2_with fail
           refine wp_region_any (by kernel_rfl) ?_
           change wpAny _ _ _ _ _ _ _ (World.drew _)
           refine wpAny_takeD3 (i := 0) (d := 24) (v := .pointer (some ⟨w.heap.size + 1 + 1, 3, none⟩)) rfl (by kernel_rfl) (by kernel_rfl) (by kernel_rfl) (fun _ _ _ h => h) (Or.inl ⟨by rfl, by intro w; go_simp⟩) rfl ?_
           simp only [Act.put, List.setIfInBounds_toArray, List.set_cons_zero, List.set_cons_succ]
           refine wpAny_takeD3 (i := 2) (d := 26) (v := .string s) rfl (by kernel_rfl) (by kernel_rfl) (by kernel_rfl) (fun _ _ _ h => h) (Or.inl ⟨by rfl, by intro w; go_simp⟩) rfl ?_
           simp only [Act.put, List.setIfInBounds_toArray, List.set_cons_zero, List.set_cons_succ]
           refine wpAny_ready (rs := [1, 3]) (by kernel_rfl) (by simp) ?_
           refine AllReady.cons rfl (fun K hK => ?_) (AllReady.cons rfl (fun K hK => ?_) AllReady.nil)
           · go_simp
             refine hK _ _ ?_
             clear hK K
             try simp only [Act.put, List.setIfInBounds_toArray, List.set_cons_zero, List.set_cons_succ]
             refine wpAny_ready (rs := [3]) (by kernel_rfl) (by simp) ?_
             refine AllReady.cons rfl (fun K hK => ?_) AllReady.nil
             go_simp
             refine (implClientNew_is _ s hs HK.out).mono ?_; rintro e w1 ⟨rfl, hb1⟩; have H1 : Hid (Below wr.heap.size wr w1) := Below.trans (Below.drew (Below.refl wr.heap.size wr)) (Below.mono hb1 (Below.size (Below.drew (Below.refl wr.heap.size wr)))); clear hb1; have z3 : w1.cell? ⟨w.heap.size + 1 + 1, 3, none⟩ = some vc := (H1.out.cell (p := ⟨w.heap.size + 1 + 1, 3, none⟩) hzX).trans e3
             refine hK _ _ ?_
             clear hK K
             try simp only [Act.put, List.setIfInBounds_toArray, List.set_cons_zero, List.set_cons_succ]
             refine wpAny_ready (rs := [4]) (by kernel_rfl) (by simp) ?_
             refine AllReady.cons rfl (fun K hK => ?_) AllReady.nil
             go_simp
             obtain ⟨w2, hw2⟩ : ∃ x, w1.alloc (.cells #[.string s, .bool true, .int .i64 0, .slice none 0 0, .slice none 0 0, .string ⟨#[]⟩] 38) = x := ⟨_, rfl⟩
             have H2 : Hid (Below wr.heap.size wr w2) := by rw [← hw2]; exact H1.out.alloc H1.out.size _
             have HN2 : Hid (w2.heap[w1.heap.size]? = some (.cells #[.string s, .bool true, .int .i64 0, .slice none 0 0, .slice none 0 0, .string ⟨#[]⟩] 38 (0, 0))) := by show _ = _; rw [← hw2]; exact heap_alloc_last w1 _
             rw [hw2]
             clear hw2 z3
             refine hK _ _ ?_
             clear hK K
             try simp only [Act.put, List.setIfInBounds_toArray, List.set_cons_zero, List.set_cons_succ]
             refine wpAny_ready (rs := [5]) (by kernel_rfl) (by simp) ?_
             refine AllReady.cons rfl (fun K hK => ?_) AllReady.nil
             refine step_append_own rfl (.tmp 25) (.tmp 28) 24 rfl (w.heap.size + 1 + 1 + 1) 38 i6 (.agg #[.string ⟨#[]⟩, .bool false, .int .i64 0, .slice none 0 0, .slice none 0 0, .string ⟨#[]⟩]) 6 96 Try.underlying24 hi6 hz6 hs6 hb6 rfl (by decide) vc k (cliCells s k) rfl (owns_below HO.out H2.out) ⟨w1.heap.size, 0, none⟩ 1 1 (newRow s) rfl rfl (news_cells (cs := #[.string s, .bool true, .int .i64 0, .slice none 0 0, .slice none 0 0, .string ⟨#[]⟩]) HN2.out) (by simp [newRow, Value.oneCell']) (by unfold maxLen; omega) (by omega) (by have := H2.out.size; omega) ?_
             intro v3 w3 hown hgrow hnil
             have HO3 : Hid (w3.ownsRow (w.heap.size + 1 + 1 + 1) 38 6 v3 (k + 1) (cliCells s (k + 1))) := hown
             have hne : some (w.heap.size + 1 + 1) ≠ vc.ownBlock := owns_ne HO.out (by omega)
             have hneB : some (w.heap.size + 1) ≠ vc.ownBlock := owns_ne HO.out (by omega)
             have hneR : some w.heap.size ≠ vc.ownBlock := owns_ne HO.out (by omega)
             have G : ∀ (b : Nat) (o : Obj), wr.heap[b]? = some o → some b ≠ vc.ownBlock → w3.heap[b]? = some o := fun b o hb hn => (hgrow.block b (Nat.lt_of_lt_of_le (lt_of_block hb) H2.out.size) hn).trans ((H2.out.block b (lt_of_block hb)).trans hb)
             have HX3 : Hid (w3.heap[w.heap.size + 1 + 1]? = some (.cells #[.string s, .slice (some ⟨w.heap.size + 1, 0, none⟩) 1 1, .slice none 0 0, vc] 26 (0, 0))) := G _ _ HX.out hne
             have HB3 : Hid (w3.heap[w.heap.size + 1]? = some (.cells #[.slice none 0 0, .slice none 0 0] 34 (0, 0))) := G _ _ HBk.out hneB
             have HR3 : Hid (w3.heap[w.heap.size]? = some (.cells #[.string ⟨#[]⟩, .slice none 0 0, .slice none 0 0, .slice none 0 0] 26 (0, 0))) := G _ _ HRb.out hneR
             have HL3 : Hid (Below w.heap.size w w3) := (HL.out.trans (H2.out.mono HL.out.size)).trans (below_of_grown hgrow (fun q hq => by rcases Nat.lt_or_ge q (w.heap.size + 1 + 1 + 1) with h | h; exact absurd hq.symm (owns_ne HO.out h); omega) (by have := H2.out.size; omega))
             have z3 : w3.cell? ⟨w.heap.size + 1 + 1, 3, none⟩ = some vc := by rw [cell_of_row _ _ 3 _ _ _ HX3.out]; rfl
             have u3 := Go.Joins.unfrozen_of_block HX3.out 3
             obtain ⟨a3, c3, rfl⟩ := owns_form HO3.out
             clear hown hgrow hnil G hne hneB hneR e3
             refine hK _ _ ?_
             clear hK K
             try simp only [Act.put, List.setIfInBounds_toArray]
             refine wpAny_ready (rs := [6]) (by kernel_rfl) (by simp) ?_
             refine AllReady.cons rfl (fun K hK => ?_) AllReady.nil
             go_simp
             refine hK _ _ ?_
             clear hK K
             try simp only [Act.put, List.setIfInBounds_toArray, List.set_cons_zero, List.set_cons_succ]
             refine wpAny_ready (rs := [7]) (by kernel_rfl) (by simp) ?_
             refine AllReady.cons rfl (fun K hK => ?_) AllReady.nil
             go_simp
             refine hK _ _ ?_
             clear hK K
             refine wpAny_done (by kernel_rfl) ?_ _
             go_wp2
             go_roundw
             case rel => exact ⟨k + 1, .slice a3 (k + 1) c3, by omega, by go_num, (heap_oth _ _ (by omega)).trans HR3.out, (heap_oth _ _ (by omega)).trans HB3.out, set_box4 HX3.out _, owns_set HO3.out _ _ _ (by omega), HL3.out.setCell (p := ⟨w.heap.size + 1 + 1, 3, none⟩) (by show w.heap.size ≤ w.heap.size + 1 + 1; omega) _⟩
             case measure => simp [intOf]; omega
           · go_simp
             refine (implClientNew_is _ s hs HK.out).mono ?_; rintro e w1 ⟨rfl, hb1⟩; have H1 : Hid (Below wr.heap.size wr w1) := Below.trans (Below.drew (Below.refl wr.heap.size wr)) (Below.mono hb1 (Below.size (Below.drew (Below.refl wr.heap.size wr)))); clear hb1; have z3 : w1.cell? ⟨w.heap.size + 1 + 1, 3, none⟩ = some vc := (H1.out.cell (p := ⟨w.heap.size + 1 + 1, 3, none⟩) hzX).trans e3
             refine hK _ _ ?_
             clear hK K
             try simp only [Act.put, List.setIfInBounds_toArray, List.set_cons_zero, List.set_cons_succ]
             refine wpAny_ready (rs := [1, 4]) (by kernel_rfl) (by simp) ?_
             refine AllReady.cons rfl (fun K hK => ?_) (AllReady.cons rfl (fun K hK => ?_) AllReady.nil)
             · go_simp
               refine hK _ _ ?_
               clear hK K
               try simp only [Act.put, List.setIfInBounds_toArray, List.set_cons_zero, List.set_cons_succ]
               refine wpAny_ready (rs := [4]) (by kernel_rfl) (by simp) ?_
               refine AllReady.cons rfl (fun K hK => ?_) AllReady.nil
               go_simp
               obtain ⟨w2, hw2⟩ : ∃ x, w1.alloc (.cells #[.string s, .bool true, .int .i64 0, .slice none 0 0, .slice none 0 0, .string ⟨#[]⟩] 38) = x := ⟨_, rfl⟩
               have H2 : Hid (Below wr.heap.size wr w2) := by rw [← hw2]; exact H1.out.alloc H1.out.size _
               have HN2 : Hid (w2.heap[w1.heap.size]? = some (.cells #[.string s, .bool true, .int .i64 0, .slice none 0 0, .slice none 0 0, .string ⟨#[]⟩] 38 (0, 0))) := by show _ = _; rw [← hw2]; exact heap_alloc_last w1 _
               rw [hw2]
               clear hw2 z3
               refine hK _ _ ?_
               clear hK K
               try simp only [Act.put, List.setIfInBounds_toArray, List.set_cons_zero, List.set_cons_succ]
               refine wpAny_ready (rs := [5]) (by kernel_rfl) (by simp) ?_
               refine AllReady.cons rfl (fun K hK => ?_) AllReady.nil
               refine step_append_own rfl (.tmp 25) (.tmp 28) 24 rfl (w.heap.size + 1 + 1 + 1) 38 i6 (.agg #[.string ⟨#[]⟩, .bool false, .int .i64 0, .slice none 0 0, .slice none 0 0, .string ⟨#[]⟩]) 6 96 Try.underlying24 hi6 hz6 hs6 hb6 rfl (by decide) vc k (cliCells s k) rfl (owns_below HO.out H2.out) ⟨w1.heap.size, 0, none⟩ 1 1 (newRow s) rfl rfl (news_cells (cs := #[.string s, .bool true, .int .i64 0, .slice none 0 0, .slice none 0 0, .string ⟨#[]⟩]) HN2.out) (by simp [newRow, Value.oneCell']) (by unfold maxLen; omega) (by omega) (by have := H2.out.size; omega) ?_
               intro v3 w3 hown hgrow hnil
               have HO3 : Hid (w3.ownsRow (w.heap.size + 1 + 1 + 1) 38 6 v3 (k + 1) (cliCells s (k + 1))) := hown
               have hne : some (w.heap.size + 1 + 1) ≠ vc.ownBlock := owns_ne HO.out (by omega)
               have hneB : some (w.heap.size + 1) ≠ vc.ownBlock := owns_ne HO.out (by omega)
               have hneR : some w.heap.size ≠ vc.ownBlock := owns_ne HO.out (by omega)
               have G : ∀ (b : Nat) (o : Obj), wr.heap[b]? = some o → some b ≠ vc.ownBlock → w3.heap[b]? = some o := fun b o hb hn => (hgrow.block b (Nat.lt_of_lt_of_le (lt_of_block hb) H2.out.size) hn).trans ((H2.out.block b (lt_of_block hb)).trans hb)
               have HX3 : Hid (w3.heap[w.heap.size + 1 + 1]? = some (.cells #[.string s, .slice (some ⟨w.heap.size + 1, 0, none⟩) 1 1, .slice none 0 0, vc] 26 (0, 0))) := G _ _ HX.out hne
               have HB3 : Hid (w3.heap[w.heap.size + 1]? = some (.cells #[.slice none 0 0, .slice none 0 0] 34 (0, 0))) := G _ _ HBk.out hneB
               have HR3 : Hid (w3.heap[w.heap.size]? = some (.cells #[.string ⟨#[]⟩, .slice none 0 0, .slice none 0 0, .slice none 0 0] 26 (0, 0))) := G _ _ HRb.out hneR
               have HL3 : Hid (Below w.heap.size w w3) := (HL.out.trans (H2.out.mono HL.out.size)).trans (below_of_grown hgrow (fun q hq => by rcases Nat.lt_or_ge q (w.heap.size + 1 + 1 + 1) with h | h; exact absurd hq.symm (owns_ne HO.out h); omega) (by have := H2.out.size; omega))
               have z3 : w3.cell? ⟨w.heap.size + 1 + 1, 3, none⟩ = some vc := by rw [cell_of_row _ _ 3 _ _ _ HX3.out]; rfl
               have u3 := Go.Joins.unfrozen_of_block HX3.out 3
               obtain ⟨a3, c3, rfl⟩ := owns_form HO3.out
               clear hown hgrow hnil G hne hneB hneR e3
               refine hK _ _ ?_
               clear hK K
               try simp only [Act.put, List.setIfInBounds_toArray]
               refine wpAny_ready (rs := [6]) (by kernel_rfl) (by simp) ?_
               refine AllReady.cons rfl (fun K hK => ?_) AllReady.nil
               go_simp
               refine hK _ _ ?_
               clear hK K
               try simp only [Act.put, List.setIfInBounds_toArray, List.set_cons_zero, List.set_cons_succ]
               refine wpAny_ready (rs := [7]) (by kernel_rfl) (by simp) ?_
               refine AllReady.cons rfl (fun K hK => ?_) AllReady.nil
               go_simp
               refine hK _ _ ?_
               clear hK K
               refine wpAny_done (by kernel_rfl) ?_ _
               go_wp2
               go_roundw
               case rel => exact ⟨k + 1, .slice a3 (k + 1) c3, by omega, by go_num, (heap_oth _ _ (by omega)).trans HR3.out, (heap_oth _ _ (by omega)).trans HB3.out, set_box4 HX3.out _, owns_set HO3.out _ _ _ (by omega), HL3.out.setCell (p := ⟨w.heap.size + 1 + 1, 3, none⟩) (by show w.heap.size ≤ w.heap.size + 1 + 1; omega) _⟩
               case measure => simp [intOf]; omega
             · go_simp
               obtain ⟨w2, hw2⟩ : ∃ x, w1.alloc (.cells #[.string s, .bool true, .int .i64 0, .slice none 0 0, .slice none 0 0, .string ⟨#[]⟩] 38) = x := ⟨_, rfl⟩
               have H2 : Hid (Below wr.heap.size wr w2) := by rw [← hw2]; exact H1.out.alloc H1.out.size _
               have HN2 : Hid (w2.heap[w1.heap.size]? = some (.cells #[.string s, .bool true, .int .i64 0, .slice none 0 0, .slice none 0 0, .string ⟨#[]⟩] 38 (0, 0))) := by show _ = _; rw [← hw2]; exact heap_alloc_last w1 _
               rw [hw2]
               clear hw2
               refine hK _ _ ?_
               clear hK K
               try simp only [Act.put, List.setIfInBounds_toArray, List.set_cons_zero, List.set_cons_succ]
               have y3 : w2.cell? ⟨w.heap.size + 1 + 1, 3, none⟩ = some vc := (H2.out.cell (p := ⟨w.heap.size + 1 + 1, 3, none⟩) hzX).trans e3
               refine wpAny_ready (rs := [1]) (by kernel_rfl) (by simp) ?_
               refine AllReady.cons rfl (fun K hK => ?_) AllReady.nil
               go_simp
               refine hK _ _ ?_
               clear hK K
               try simp only [Act.put, List.setIfInBounds_toArray, List.set_cons_zero, List.set_cons_succ]
               clear y3 z3
               refine wpAny_ready (rs := [5]) (by kernel_rfl) (by simp) ?_
               refine AllReady.cons rfl (fun K hK => ?_) AllReady.nil
               refine step_append_own rfl (.tmp 25) (.tmp 28) 24 rfl (w.heap.size + 1 + 1 + 1) 38 i6 (.agg #[.string ⟨#[]⟩, .bool false, .int .i64 0, .slice none 0 0, .slice none 0 0, .string ⟨#[]⟩]) 6 96 Try.underlying24 hi6 hz6 hs6 hb6 rfl (by decide) vc k (cliCells s k) rfl (owns_below HO.out H2.out) ⟨w1.heap.size, 0, none⟩ 1 1 (newRow s) rfl rfl (news_cells (cs := #[.string s, .bool true, .int .i64 0, .slice none 0 0, .slice none 0 0, .string ⟨#[]⟩]) HN2.out) (by simp [newRow, Value.oneCell']) (by unfold maxLen; omega) (by omega) (by have := H2.out.size; omega) ?_
               intro v3 w3 hown hgrow hnil
               have HO3 : Hid (w3.ownsRow (w.heap.size + 1 + 1 + 1) 38 6 v3 (k + 1) (cliCells s (k + 1))) := hown
               have hne : some (w.heap.size + 1 + 1) ≠ vc.ownBlock := owns_ne HO.out (by omega)
               have hneB : some (w.heap.size + 1) ≠ vc.ownBlock := owns_ne HO.out (by omega)
               have hneR : some w.heap.size ≠ vc.ownBlock := owns_ne HO.out (by omega)
               have G : ∀ (b : Nat) (o : Obj), wr.heap[b]? = some o → some b ≠ vc.ownBlock → w3.heap[b]? = some o := fun b o hb hn => (hgrow.block b (Nat.lt_of_lt_of_le (lt_of_block hb) H2.out.size) hn).trans ((H2.out.block b (lt_of_block hb)).trans hb)
               have HX3 : Hid (w3.heap[w.heap.size + 1 + 1]? = some (.cells #[.string s, .slice (some ⟨w.heap.size + 1, 0, none⟩) 1 1, .slice none 0 0, vc] 26 (0, 0))) := G _ _ HX.out hne
               have HB3 : Hid (w3.heap[w.heap.size + 1]? = some (.cells #[.slice none 0 0, .slice none 0 0] 34 (0, 0))) := G _ _ HBk.out hneB
               have HR3 : Hid (w3.heap[w.heap.size]? = some (.cells #[.string ⟨#[]⟩, .slice none 0 0, .slice none 0 0, .slice none 0 0] 26 (0, 0))) := G _ _ HRb.out hneR
               have HL3 : Hid (Below w.heap.size w w3) := (HL.out.trans (H2.out.mono HL.out.size)).trans (below_of_grown hgrow (fun q hq => by rcases Nat.lt_or_ge q (w.heap.size + 1 + 1 + 1) with h | h; exact absurd hq.symm (owns_ne HO.out h); omega) (by have := H2.out.size; omega))
               have z3 : w3.cell? ⟨w.heap.size + 1 + 1, 3, none⟩ = some vc := by rw [cell_of_row _ _ 3 _ _ _ HX3.out]; rfl
               have u3 := Go.Joins.unfrozen_of_block HX3.out 3
               obtain ⟨a3, c3, rfl⟩ := owns_form HO3.out
               clear hown hgrow hnil G hne hneB hneR e3
               refine hK _ _ ?_
               clear hK K
               try simp only [Act.put, List.setIfInBounds_toArray]
               refine wpAny_ready (rs := [6]) (by kernel_rfl) (by simp) ?_
               refine AllReady.cons rfl (fun K hK => ?_) AllReady.nil
               go_simp
               refine hK _ _ ?_
               clear hK K
               try simp only [Act.put, List.setIfInBounds_toArray, List.set_cons_zero, List.set_cons_succ]
               refine wpAny_ready (rs := [7]) (by kernel_rfl) (by simp) ?_
               refine AllReady.cons rfl (fun K hK => ?_) AllReady.nil
               go_simp
               refine hK _ _ ?_
               clear hK K
               refine wpAny_done (by kernel_rfl) ?_ _
               go_wp2
               go_roundw
               case rel => exact ⟨k + 1, .slice a3 (k + 1) c3, by omega, by go_num, (heap_oth _ _ (by omega)).trans HR3.out, (heap_oth _ _ (by omega)).trans HB3.out, set_box4 HX3.out _, owns_set HO3.out _ _ _ (by omega), HL3.out.setCell (p := ⟨w.heap.size + 1 + 1, 3, none⟩) (by show w.heap.size ≤ w.heap.size + 1 + 1; omega) _⟩
               case measure => simp [intOf]; omega
         · have hke : k = N := by omega
           subst hke
           have r0 : wr.cell? ⟨w.heap.size, 0, none⟩ = some (.string ⟨#[]⟩) := by rw [cell_of_row _ _ 0 _ _ _ HRb.out]; rfl
           have r1 : wr.cell? ⟨w.heap.size, 1, none⟩ = some (.slice none 0 0) := by rw [cell_of_row _ _ 1 _ _ _ HRb.out]; rfl
           have r2 : wr.cell? ⟨w.heap.size, 2, none⟩ = some (.slice none 0 0) := by rw [cell_of_row _ _ 2 _ _ _ HRb.out]; rfl
           have r3 : wr.cell? ⟨w.heap.size, 3, none⟩ = some (.slice none 0 0) := by rw [cell_of_row _ _ 3 _ _ _ HRb.out]; rfl
           have q0 := Go.Joins.unfrozen_of_block HRb.out 0
           have q1 := Go.Joins.unfrozen_of_block HRb.out 1
           have q2 := Go.Joins.unfrozen_of_block HRb.out 2
           have q3 := Go.Joins.unfrozen_of_block HRb.out 3
           have e0 : wr.cell? ⟨w.heap.size + 1 + 1, 0, none⟩ = some (.string s) := by rw [cell_of_row _ _ 0 _ _ _ HX.out]; rfl
           have e1 : wr.cell? ⟨w.heap.size + 1 + 1, 1, none⟩ = some (.slice (some ⟨w.heap.size + 1, 0, none⟩) 1 1) := by rw [cell_of_row _ _ 1 _ _ _ HX.out]; rfl
           have e2 : wr.cell? ⟨w.heap.size + 1 + 1, 2, none⟩ = some (.slice none 0 0) := by rw [cell_of_row _ _ 2 _ _ _ HX.out]; rfl
           subst hvc
           go_wp2
           refine bodyPost_ret (v := .agg #[.string s, .slice (some ⟨w.heap.size + 1, 0, none⟩) 1 1, .slice none 0 0, .slice av k cv]) (by simp [results, Try.results5, go_sem, r0, r1, r2, r3]) rfl ⟨_, rfl, aWorld HNO.out ?_ ?_, ?_⟩
           · exact (heap_oth _ _ (by omega)).trans ((heap_oth _ _ (by omega)).trans ((heap_oth _ _ (by omega)).trans ((heap_oth _ _ (by omega)).trans HBk.out)))
           · exact owns_lower (owns_set (owns_set (owns_set (owns_set HO.out _ _ _ (by omega)) _ _ _ (by omega)) _ _ _ (by omega)) _ _ _ (by omega)) (by omega)
           · exact (((HL.out.setCell (p := ⟨w.heap.size, 0, none⟩) (Nat.le_refl _) _).setCell (p := ⟨w.heap.size, 1, none⟩) (Nat.le_refl _) _).setCell (p := ⟨w.heap.size, 2, none⟩) (Nat.le_refl _) _).setCell (p := ⟨w.heap.size, 3, none⟩) (Nat.le_refl _) _
set_option maxRecDepth 100000 in
set_option maxHeartbeats 2000000 in
theorem specWorldNew_any (w : World) (s : ByteArray) (n : Int) (hs : s.size ≤ maxLen) :
    Calls Try.prog 4 #[.string s, .int .i64 n] w fun e w' => ∃ v, e = .returned v ∧ WldOwn w.heap.size w'.heap.size w' v (nS s n) (nB s n) (nN s n) (newF s) ∧ Below w.heap.size w w' := by
  obtain ⟨i6, hi6, hz6, hs6, hb6⟩ := info_parts Try.info_cli203
  cases hk : keyT s with
  | false =>
    have HNO : Hid (nOk s n = false) := by show _ = _; unfold nOk; rw [hk]; rfl
    go_enter Try.func4, Try.ntmps4
    go_wp2_with fail
    refine (l6Key_any _ _ hs).mono ?_
    rintro e w1 ⟨rfl, rfl⟩
    rw [hk]
    go_wp2
    refine bodyPost_ret (v := .agg #[.string ⟨#[]⟩, .slice none 0 0, .slice none 0 0, .slice none 0 0]) (by simp [results, Try.results4, go_sem]) rfl ⟨_, rfl, noWorld _ HNO.out, ?_⟩
    repeat refine Below.setCell ?_ (Nat.le_refl _) _
    exact (((Below.refl _ _).alloc (Nat.le_refl _) _).alloc (by simp) _).alloc (by simp; omega) _
  | true =>
   have HK : Hid (keyT s = true) := hk
   cases hin : inU n 1 3 with
   | false =>
     have HNO : Hid (nOk s n = false) := by show _ = _; unfold nOk; rw [hk]; simp only [inU] at hin; simpa using hin
     go_enter Try.func4, Try.ntmps4
     go_wp2_with fail
     refine (l6Key_any _ _ hs).mono ?_
     rintro e w1 ⟨rfl, rfl⟩
     rw [hk]
     go_wp2_with fail
     refine (l1InU_is hin _).mono ?_
     rintro e w1 ⟨rfl, rfl⟩
     go_wp2
     refine bodyPost_ret (v := .agg #[.string ⟨#[]⟩, .slice none 0 0, .slice none 0 0, .slice none 0 0]) (by simp [results, Try.results4, go_sem]) rfl ⟨_, rfl, noWorld _ HNO.out, ?_⟩
     repeat refine Below.setCell ?_ (Nat.le_refl _) _
     exact (((Below.refl _ _).alloc (Nat.le_refl _) _).alloc (by simp) _).alloc (by simp; omega) _
   | true =>
       have h13 : 1 ≤ n ∧ n ≤ 3 := by simpa [inU] using hin
       have HNO : Hid (nOk s n = true) := by show _ = _; unfold nOk; rw [hk, decide_eq_true h13.1, decide_eq_true h13.2]; rfl
       obtain ⟨N, rfl⟩ : ∃ N : Nat, n = (N : Int) := ⟨n.toNat, by omega⟩
       have hN : N ≤ 3 := by omega
       go_enter Try.func4, Try.ntmps4
       go_wp2_with fail
       refine (l6Key_any _ _ hs).mono ?_
       rintro e w1 ⟨rfl, he⟩
       rw [he, hk]
       clear he
       go_wp2_with fail
       refine (l1InU_is hin _).mono ?_
       rintro e w1 ⟨rfl, he⟩
       rw [he]
       clear he
       go_wp2
       obtain ⟨w0, hw0⟩ : ∃ x, ((w.alloc (.cells #[.string ⟨#[]⟩, .slice none 0 0, .slice none 0 0, .slice none 0 0] 26)).alloc (.cells #[.slice none 0 0, .slice none 0 0] 34)).alloc (.cells #[.string s, .slice (some ⟨w.heap.size + 1, 0, none⟩) 1 1, .slice none 0 0, .slice none 0 0] 26) = x := ⟨_, rfl⟩
       have HL0 : Hid (Below w.heap.size w w0) := by rw [← hw0]; exact (((Below.refl _ _).alloc (Nat.le_refl _) _).alloc (by simp) _).alloc (by simp; omega) _
       have HR0 : Hid (w0.heap[w.heap.size]? = some (.cells #[.string ⟨#[]⟩, .slice none 0 0, .slice none 0 0, .slice none 0 0] 26 (0, 0))) := by
         show _ = _
         rw [← hw0]
         have h := (((Below.refl _ (w.alloc (.cells #[.string ⟨#[]⟩, .slice none 0 0, .slice none 0 0, .slice none 0 0] 26))).alloc (Nat.le_refl _) (.cells #[.slice none 0 0, .slice none 0 0] 34)).alloc (by simp) (.cells #[.string s, .slice (some ⟨w.heap.size + 1, 0, none⟩) 1 1, .slice none 0 0, .slice none 0 0] 26)).block w.heap.size (by simp)
         exact h.trans (heap_alloc_last w _)
       have HB0 : Hid (w0.heap[w.heap.size + 1]? = some (.cells #[.slice none 0 0, .slice none 0 0] 34 (0, 0))) := by
         show _ = _
         rw [← hw0]
         have h := ((Below.refl _ ((w.alloc (.cells #[.string ⟨#[]⟩, .slice none 0 0, .slice none 0 0, .slice none 0 0] 26)).alloc (.cells #[.slice none 0 0, .slice none 0 0] 34))).alloc (Nat.le_refl _) (.cells #[.string s, .slice (some ⟨w.heap.size + 1, 0, none⟩) 1 1, .slice none 0 0, .slice none 0 0] 26)).block (w.heap.size + 1) (by simp)
         have h2 := heap_alloc_last (w.alloc (.cells #[.string ⟨#[]⟩, .slice none 0 0, .slice none 0 0, .slice none 0 0] 26)) (.cells #[.slice none 0 0, .slice none 0 0] 34)
         rw [World.size_alloc] at h2
         exact h.trans h2
       have HX0 : Hid (w0.heap[w.heap.size + 1 + 1]? = some (.cells #[.string s, .slice (some ⟨w.heap.size + 1, 0, none⟩) 1 1, .slice none 0 0, .slice none 0 0] 26 (0, 0))) := by
         show _ = _
         rw [← hw0]
         have h2 := heap_alloc_last ((w.alloc (.cells #[.string ⟨#[]⟩, .slice none 0 0, .slice none 0 0, .slice none 0 0] 26)).alloc (.cells #[.slice none 0 0, .slice none 0 0] 34)) (.cells #[.string s, .slice (some ⟨w.heap.size + 1, 0, none⟩) 1 1, .slice none 0 0, .slice none 0 0] 26)
         rw [World.size_alloc, World.size_alloc] at h2
         exact h2
       have hz0 : w0.heap.size = w.heap.size + 1 + 1 + 1 := by rw [← hw0]; simp
       rw [hw0]
       clear hw0
       go_loopw [6] (fun i wr => ∃ (k : Nat) (vc : Value), k ≤ N ∧ i = .int .i64 k ∧ wr.heap[w.heap.size]? = some (.cells #[.string ⟨#[]⟩, .slice none 0 0, .slice none 0 0, .slice none 0 0] 26 (0, 0)) ∧ wr.heap[w.heap.size + 1]? = some (.cells #[.slice none 0 0, .slice none 0 0] 34 (0, 0)) ∧ wr.heap[w.heap.size + 1 + 1]? = some (.cells #[.string s, .slice (some ⟨w.heap.size + 1, 0, none⟩) 1 1, .slice none 0 0, vc] 26 (0, 0)) ∧ wr.ownsRow (w.heap.size + 1 + 1 + 1) 38 6 vc k (cliCells s k) ∧ Below w.heap.size w wr) (fun i _ => N - (intOf i).toNat)
       case atStart => exact ⟨0, .slice none 0 0, Nat.zero_le _, rfl, HR0.out, HB0.out, HX0.out, World.ownsRow_nil _ _ _ _, HL0.out⟩
       case round =>
         obtain ⟨k, vc, hkN, rfl, hr, hbk, hx, hown, hl⟩ := hrel
         have HRb : Hid (wr.heap[w.heap.size]? = some (.cells #[.string ⟨#[]⟩, .slice none 0 0, .slice none 0 0, .slice none 0 0] 26 (0, 0))) := hr
         have HBk : Hid (wr.heap[w.heap.size + 1]? = some (.cells #[.slice none 0 0, .slice none 0 0] 34 (0, 0))) := hbk
         have HX : Hid (wr.heap[w.heap.size + 1 + 1]? = some (.cells #[.string s, .slice (some ⟨w.heap.size + 1, 0, none⟩) 1 1, .slice none 0 0, vc] 26 (0, 0))) := hx
         have HO : Hid (wr.ownsRow (w.heap.size + 1 + 1 + 1) 38 6 vc k (cliCells s k)) := hown
         have HL : Hid (Below w.heap.size w wr) := hl
         have hzX : w.heap.size + 1 + 1 < wr.heap.size := lt_of_block hx
         obtain ⟨av, cv, hvc⟩ := owns_form hown
         subst hvc
         obtain ⟨vc, hvc⟩ : ∃ x, Value.slice av k cv = x := ⟨_, rfl⟩
         rw [hvc] at HX HO
         have e3 : wr.cell? ⟨w.heap.size + 1 + 1, 3, none⟩ = some vc := by rw [cell_of_row _ _ 3 _ _ _ HX.out]; rfl
         clear hr hbk hx hown hl
         by_cases hlt : k < N
         · have i1 : (k : Int) < (N : Int) := by omega
           clear hvc
           go_wp2_with fail
           refine wp_region_any (by kernel_rfl) ?_
           change wpAny _ _ _ _ _ _ _ (World.drew _)
           refine wpAny_takeD3 (i := 0) (d := 25) (v := .pointer (some ⟨w.heap.size + 1 + 1, 3, none⟩)) rfl (by kernel_rfl) (by kernel_rfl) (by kernel_rfl) (fun _ _ _ h => h) (Or.inl ⟨by rfl, by intro w; go_simp⟩) rfl ?_
           simp only [Act.put, List.setIfInBounds_toArray, List.set_cons_zero, List.set_cons_succ]
           refine wpAny_takeD3 (i := 2) (d := 27) (v := .string s) rfl (by kernel_rfl) (by kernel_rfl) (by kernel_rfl) (fun _ _ _ h => h) (Or.inl ⟨by rfl, by intro w; go_simp⟩) rfl ?_
           simp only [Act.put, List.setIfInBounds_toArray, List.set_cons_zero, List.set_cons_succ]
           refine wpAny_ready (rs := [1, 3]) (by kernel_rfl) (by simp) ?_
           refine AllReady.cons rfl (fun K hK => ?_) (AllReady.cons rfl (fun K hK => ?_) AllReady.nil)
           · go_simp
             refine hK _ _ ?_
             clear hK K
             try simp only [Act.put, List.setIfInBounds_toArray, List.set_cons_zero, List.set_cons_succ]
             refine wpAny_ready (rs := [3]) (by kernel_rfl) (by simp) ?_
             refine AllReady.cons rfl (fun K hK => ?_) AllReady.nil
             go_simp
             refine (specClientNew_is _ s hs HK.out).mono ?_; rintro e w1 ⟨rfl, hb1⟩; have H1 : Hid (Below wr.heap.size wr w1) := Below.trans (Below.drew (Below.refl wr.heap.size wr)) (Below.mono hb1 (Below.size (Below.drew (Below.refl wr.heap.size wr)))); clear hb1; have z3 : w1.cell? ⟨w.heap.size + 1 + 1, 3, none⟩ = some vc := (H1.out.cell (p := ⟨w.heap.size + 1 + 1, 3, none⟩) hzX).trans e3
             refine hK _ _ ?_
             clear hK K
             try simp only [Act.put, List.setIfInBounds_toArray, List.set_cons_zero, List.set_cons_succ]
             refine wpAny_ready (rs := [4]) (by kernel_rfl) (by simp) ?_
             refine AllReady.cons rfl (fun K hK => ?_) AllReady.nil
             go_simp
             obtain ⟨w2, hw2⟩ : ∃ x, w1.alloc (.cells #[.string s, .bool true, .int .i64 0, .slice none 0 0, .slice none 0 0, .string ⟨#[]⟩] 38) = x := ⟨_, rfl⟩
             have H2 : Hid (Below wr.heap.size wr w2) := by rw [← hw2]; exact H1.out.alloc H1.out.size _
             have HN2 : Hid (w2.heap[w1.heap.size]? = some (.cells #[.string s, .bool true, .int .i64 0, .slice none 0 0, .slice none 0 0, .string ⟨#[]⟩] 38 (0, 0))) := by show _ = _; rw [← hw2]; exact heap_alloc_last w1 _
             rw [hw2]
             clear hw2 z3
             refine hK _ _ ?_
             clear hK K
             try simp only [Act.put, List.setIfInBounds_toArray, List.set_cons_zero, List.set_cons_succ]
             refine wpAny_ready (rs := [5]) (by kernel_rfl) (by simp) ?_
             refine AllReady.cons rfl (fun K hK => ?_) AllReady.nil
             refine step_append_own rfl (.tmp 26) (.tmp 29) 24 rfl (w.heap.size + 1 + 1 + 1) 38 i6 (.agg #[.string ⟨#[]⟩, .bool false, .int .i64 0, .slice none 0 0, .slice none 0 0, .string ⟨#[]⟩]) 6 96 Try.underlying24 hi6 hz6 hs6 hb6 rfl (by decide) vc k (cliCells s k) rfl (owns_below HO.out H2.out) ⟨w1.heap.size, 0, none⟩ 1 1 (newRow s) rfl rfl (news_cells (cs := #[.string s, .bool true, .int .i64 0, .slice none 0 0, .slice none 0 0, .string ⟨#[]⟩]) HN2.out) (by simp [newRow, Value.oneCell']) (by unfold maxLen; omega) (by omega) (by have := H2.out.size; omega) ?_
             intro v3 w3 hown hgrow hnil
             have HO3 : Hid (w3.ownsRow (w.heap.size + 1 + 1 + 1) 38 6 v3 (k + 1) (cliCells s (k + 1))) := hown
             have hne : some (w.heap.size + 1 + 1) ≠ vc.ownBlock := owns_ne HO.out (by omega)
             have hneB : some (w.heap.size + 1) ≠ vc.ownBlock := owns_ne HO.out (by omega)
             have hneR : some w.heap.size ≠ vc.ownBlock := owns_ne HO.out (by omega)
             have G : ∀ (b : Nat) (o : Obj), wr.heap[b]? = some o → some b ≠ vc.ownBlock → w3.heap[b]? = some o := fun b o hb hn => (hgrow.block b (Nat.lt_of_lt_of_le (lt_of_block hb) H2.out.size) hn).trans ((H2.out.block b (lt_of_block hb)).trans hb)
             have HX3 : Hid (w3.heap[w.heap.size + 1 + 1]? = some (.cells #[.string s, .slice (some ⟨w.heap.size + 1, 0, none⟩) 1 1, .slice none 0 0, vc] 26 (0, 0))) := G _ _ HX.out hne
             have HB3 : Hid (w3.heap[w.heap.size + 1]? = some (.cells #[.slice none 0 0, .slice none 0 0] 34 (0, 0))) := G _ _ HBk.out hneB
             have HR3 : Hid (w3.heap[w.heap.size]? = some (.cells #[.string ⟨#[]⟩, .slice none 0 0, .slice none 0 0, .slice none 0 0] 26 (0, 0))) := G _ _ HRb.out hneR
             have HL3 : Hid (Below w.heap.size w w3) := (HL.out.trans (H2.out.mono HL.out.size)).trans (below_of_grown hgrow (fun q hq => by rcases Nat.lt_or_ge q (w.heap.size + 1 + 1 + 1) with h | h; exact absurd hq.symm (owns_ne HO.out h); omega) (by have := H2.out.size; omega))
             have z3 : w3.cell? ⟨w.heap.size + 1 + 1, 3, none⟩ = some vc := by rw [cell_of_row _ _ 3 _ _ _ HX3.out]; rfl
             have u3 := Go.Joins.unfrozen_of_block HX3.out 3
             obtain ⟨a3, c3, rfl⟩ := owns_form HO3.out
             clear hown hgrow hnil G hne hneB hneR e3
             refine hK _ _ ?_
             clear hK K
             try simp only [Act.put, List.setIfInBounds_toArray]
             refine wpAny_ready (rs := [6]) (by kernel_rfl) (by simp) ?_
             refine AllReady.cons rfl (fun K hK => ?_) AllReady.nil
             go_simp
             refine hK _ _ ?_
             clear hK K
             try simp only [Act.put, List.setIfInBounds_toArray, List.set_cons_zero, List.set_cons_succ]
             refine wpAny_ready (rs := [7]) (by kernel_rfl) (by simp) ?_
             refine AllReady.cons rfl (fun K hK => ?_) AllReady.nil
             go_simp
             refine hK _ _ ?_
             clear hK K
             refine wpAny_done (by kernel_rfl) ?_ _
             go_wp2
             go_roundw
             case rel => exact ⟨k + 1, .slice a3 (k + 1) c3, by omega, by go_num, (heap_oth _ _ (by omega)).trans HR3.out, (heap_oth _ _ (by omega)).trans HB3.out, set_box4 HX3.out _, owns_set HO3.out _ _ _ (by omega), HL3.out.setCell (p := ⟨w.heap.size + 1 + 1, 3, none⟩) (by show w.heap.size ≤ w.heap.size + 1 + 1; omega) _⟩
             case measure => simp [intOf]; omega
           · go_simp
             refine (specClientNew_is _ s hs HK.out).mono ?_; rintro e w1 ⟨rfl, hb1⟩; have H1 : Hid (Below wr.heap.size wr w1) := Below.trans (Below.drew (Below.refl wr.heap.size wr)) (Below.mono hb1 (Below.size (Below.drew (Below.refl wr.heap.size wr)))); clear hb1; have z3 : w1.cell? ⟨w.heap.size + 1 + 1, 3, none⟩ = some vc := (H1.out.cell (p := ⟨w.heap.size + 1 + 1, 3, none⟩) hzX).trans e3
             refine hK _ _ ?_
             clear hK K
             try simp only [Act.put, List.setIfInBounds_toArray, List.set_cons_zero, List.set_cons_succ]
             refine wpAny_ready (rs := [1, 4]) (by kernel_rfl) (by simp) ?_
             refine AllReady.cons rfl (fun K hK => ?_) (AllReady.cons rfl (fun K hK => ?_) AllReady.nil)
             · go_simp
               refine hK _ _ ?_
               clear hK K
               try simp only [Act.put, List.setIfInBounds_toArray, List.set_cons_zero, List.set_cons_succ]
               refine wpAny_ready (rs := [4]) (by kernel_rfl) (by simp) ?_
               refine AllReady.cons rfl (fun K hK => ?_) AllReady.nil
               go_simp
               obtain ⟨w2, hw2⟩ : ∃ x, w1.alloc (.cells #[.string s, .bool true, .int .i64 0, .slice none 0 0, .slice none 0 0, .string ⟨#[]⟩] 38) = x := ⟨_, rfl⟩
               have H2 : Hid (Below wr.heap.size wr w2) := by rw [← hw2]; exact H1.out.alloc H1.out.size _
               have HN2 : Hid (w2.heap[w1.heap.size]? = some (.cells #[.string s, .bool true, .int .i64 0, .slice none 0 0, .slice none 0 0, .string ⟨#[]⟩] 38 (0, 0))) := by show _ = _; rw [← hw2]; exact heap_alloc_last w1 _
               rw [hw2]
               clear hw2 z3
               refine hK _ _ ?_
               clear hK K
               try simp only [Act.put, List.setIfInBounds_toArray, List.set_cons_zero, List.set_cons_succ]
               refine wpAny_ready (rs := [5]) (by kernel_rfl) (by simp) ?_
               refine AllReady.cons rfl (fun K hK => ?_) AllReady.nil
               refine step_append_own rfl (.tmp 26) (.tmp 29) 24 rfl (w.heap.size + 1 + 1 + 1) 38 i6 (.agg #[.string ⟨#[]⟩, .bool false, .int .i64 0, .slice none 0 0, .slice none 0 0, .string ⟨#[]⟩]) 6 96 Try.underlying24 hi6 hz6 hs6 hb6 rfl (by decide) vc k (cliCells s k) rfl (owns_below HO.out H2.out) ⟨w1.heap.size, 0, none⟩ 1 1 (newRow s) rfl rfl (news_cells (cs := #[.string s, .bool true, .int .i64 0, .slice none 0 0, .slice none 0 0, .string ⟨#[]⟩]) HN2.out) (by simp [newRow, Value.oneCell']) (by unfold maxLen; omega) (by omega) (by have := H2.out.size; omega) ?_
               intro v3 w3 hown hgrow hnil
               have HO3 : Hid (w3.ownsRow (w.heap.size + 1 + 1 + 1) 38 6 v3 (k + 1) (cliCells s (k + 1))) := hown
               have hne : some (w.heap.size + 1 + 1) ≠ vc.ownBlock := owns_ne HO.out (by omega)
               have hneB : some (w.heap.size + 1) ≠ vc.ownBlock := owns_ne HO.out (by omega)
               have hneR : some w.heap.size ≠ vc.ownBlock := owns_ne HO.out (by omega)
               have G : ∀ (b : Nat) (o : Obj), wr.heap[b]? = some o → some b ≠ vc.ownBlock → w3.heap[b]? = some o := fun b o hb hn => (hgrow.block b (Nat.lt_of_lt_of_le (lt_of_block hb) H2.out.size) hn).trans ((H2.out.block b (lt_of_block hb)).trans hb)
               have HX3 : Hid (w3.heap[w.heap.size + 1 + 1]? = some (.cells #[.string s, .slice (some ⟨w.heap.size + 1, 0, none⟩) 1 1, .slice none 0 0, vc] 26 (0, 0))) := G _ _ HX.out hne
               have HB3 : Hid (w3.heap[w.heap.size + 1]? = some (.cells #[.slice none 0 0, .slice none 0 0] 34 (0, 0))) := G _ _ HBk.out hneB
               have HR3 : Hid (w3.heap[w.heap.size]? = some (.cells #[.string ⟨#[]⟩, .slice none 0 0, .slice none 0 0, .slice none 0 0] 26 (0, 0))) := G _ _ HRb.out hneR
               have HL3 : Hid (Below w.heap.size w w3) := (HL.out.trans (H2.out.mono HL.out.size)).trans (below_of_grown hgrow (fun q hq => by rcases Nat.lt_or_ge q (w.heap.size + 1 + 1 + 1) with h | h; exact absurd hq.symm (owns_ne HO.out h); omega) (by have := H2.out.size; omega))
               have z3 : w3.cell? ⟨w.heap.size + 1 + 1, 3, none⟩ = some vc := by rw [cell_of_row _ _ 3 _ _ _ HX3.out]; rfl
               have u3 := Go.Joins.unfrozen_of_block HX3.out 3
               obtain ⟨a3, c3, rfl⟩ := owns_form HO3.out
               clear hown hgrow hnil G hne hneB hneR e3
               refine hK _ _ ?_
               clear hK K
               try simp only [Act.put, List.setIfInBounds_toArray]
               refine wpAny_ready (rs := [6]) (by kernel_rfl) (by simp) ?_
               refine AllReady.cons rfl (fun K hK => ?_) AllReady.nil
               go_simp
               refine hK _ _ ?_
               clear hK K
               try simp only [Act.put, List.setIfInBounds_toArray, List.set_cons_zero, List.set_cons_succ]
               refine wpAny_ready (rs := [7]) (by kernel_rfl) (by simp) ?_
               refine AllReady.cons rfl (fun K hK => ?_) AllReady.nil
               go_simp
               refine hK _ _ ?_
               clear hK K
               refine wpAny_done (by kernel_rfl) ?_ _
               go_wp2
               go_roundw
               case rel => exact ⟨k + 1, .slice a3 (k + 1) c3, by omega, by go_num, (heap_oth _ _ (by omega)).trans HR3.out, (heap_oth _ _ (by omega)).trans HB3.out, set_box4 HX3.out _, owns_set HO3.out _ _ _ (by omega), HL3.out.setCell (p := ⟨w.heap.size + 1 + 1, 3, none⟩) (by show w.heap.size ≤ w.heap.size + 1 + 1; omega) _⟩
               case measure => simp [intOf]; omega
             · go_simp
               obtain ⟨w2, hw2⟩ : ∃ x, w1.alloc (.cells #[.string s, .bool true, .int .i64 0, .slice none 0 0, .slice none 0 0, .string ⟨#[]⟩] 38) = x := ⟨_, rfl⟩
               have H2 : Hid (Below wr.heap.size wr w2) := by rw [← hw2]; exact H1.out.alloc H1.out.size _
               have HN2 : Hid (w2.heap[w1.heap.size]? = some (.cells #[.string s, .bool true, .int .i64 0, .slice none 0 0, .slice none 0 0, .string ⟨#[]⟩] 38 (0, 0))) := by show _ = _; rw [← hw2]; exact heap_alloc_last w1 _
               rw [hw2]
               clear hw2
               refine hK _ _ ?_
               clear hK K
               try simp only [Act.put, List.setIfInBounds_toArray, List.set_cons_zero, List.set_cons_succ]
               have y3 : w2.cell? ⟨w.heap.size + 1 + 1, 3, none⟩ = some vc := (H2.out.cell (p := ⟨w.heap.size + 1 + 1, 3, none⟩) hzX).trans e3
               refine wpAny_ready (rs := [1]) (by kernel_rfl) (by simp) ?_
               refine AllReady.cons rfl (fun K hK => ?_) AllReady.nil
               go_simp
               refine hK _ _ ?_
               clear hK K
               try simp only [Act.put, List.setIfInBounds_toArray, List.set_cons_zero, List.set_cons_succ]
               clear y3 z3
               refine wpAny_ready (rs := [5]) (by kernel_rfl) (by simp) ?_
               refine AllReady.cons rfl (fun K hK => ?_) AllReady.nil
               refine step_append_own rfl (.tmp 26) (.tmp 29) 24 rfl (w.heap.size + 1 + 1 + 1) 38 i6 (.agg #[.string ⟨#[]⟩, .bool false, .int .i64 0, .slice none 0 0, .slice none 0 0, .string ⟨#[]⟩]) 6 96 Try.underlying24 hi6 hz6 hs6 hb6 rfl (by decide) vc k (cliCells s k) rfl (owns_below HO.out H2.out) ⟨w1.heap.size, 0, none⟩ 1 1 (newRow s) rfl rfl (news_cells (cs := #[.string s, .bool true, .int .i64 0, .slice none 0 0, .slice none 0 0, .string ⟨#[]⟩]) HN2.out) (by simp [newRow, Value.oneCell']) (by unfold maxLen; omega) (by omega) (by have := H2.out.size; omega) ?_
               intro v3 w3 hown hgrow hnil
               have HO3 : Hid (w3.ownsRow (w.heap.size + 1 + 1 + 1) 38 6 v3 (k + 1) (cliCells s (k + 1))) := hown
               have hne : some (w.heap.size + 1 + 1) ≠ vc.ownBlock := owns_ne HO.out (by omega)
               have hneB : some (w.heap.size + 1) ≠ vc.ownBlock := owns_ne HO.out (by omega)
               have hneR : some w.heap.size ≠ vc.ownBlock := owns_ne HO.out (by omega)
               have G : ∀ (b : Nat) (o : Obj), wr.heap[b]? = some o → some b ≠ vc.ownBlock → w3.heap[b]? = some o := fun b o hb hn => (hgrow.block b (Nat.lt_of_lt_of_le (lt_of_block hb) H2.out.size) hn).trans ((H2.out.block b (lt_of_block hb)).trans hb)
               have HX3 : Hid (w3.heap[w.heap.size + 1 + 1]? = some (.cells #[.string s, .slice (some ⟨w.heap.size + 1, 0, none⟩) 1 1, .slice none 0 0, vc] 26 (0, 0))) := G _ _ HX.out hne
               have HB3 : Hid (w3.heap[w.heap.size + 1]? = some (.cells #[.slice none 0 0, .slice none 0 0] 34 (0, 0))) := G _ _ HBk.out hneB
               have HR3 : Hid (w3.heap[w.heap.size]? = some (.cells #[.string ⟨#[]⟩, .slice none 0 0, .slice none 0 0, .slice none 0 0] 26 (0, 0))) := G _ _ HRb.out hneR
               have HL3 : Hid (Below w.heap.size w w3) := (HL.out.trans (H2.out.mono HL.out.size)).trans (below_of_grown hgrow (fun q hq => by rcases Nat.lt_or_ge q (w.heap.size + 1 + 1 + 1) with h | h; exact absurd hq.symm (owns_ne HO.out h); omega) (by have := H2.out.size; omega))
               have z3 : w3.cell? ⟨w.heap.size + 1 + 1, 3, none⟩ = some vc := by rw [cell_of_row _ _ 3 _ _ _ HX3.out]; rfl
               have u3 := Go.Joins.unfrozen_of_block HX3.out 3
               obtain ⟨a3, c3, rfl⟩ := owns_form HO3.out
               clear hown hgrow hnil G hne hneB hneR e3
               refine hK _ _ ?_
               clear hK K
               try simp only [Act.put, List.setIfInBounds_toArray]
               refine wpAny_ready (rs := [6]) (by kernel_rfl) (by simp) ?_
               refine AllReady.cons rfl (fun K hK => ?_) AllReady.nil
               go_simp
               refine hK _ _ ?_
               clear hK K
               try simp only [Act.put, List.setIfInBounds_toArray, List.set_cons_zero, List.set_cons_succ]
               refine wpAny_ready (rs := [7]) (by kernel_rfl) (by simp) ?_
               refine AllReady.cons rfl (fun K hK => ?_) AllReady.nil
               go_simp
               refine hK _ _ ?_
               clear hK K
               refine wpAny_done (by kernel_rfl) ?_ _
               go_wp2
               go_roundw
               case rel => exact ⟨k + 1, .slice a3 (k + 1) c3, by omega, by go_num, (heap_oth _ _ (by omega)).trans HR3.out, (heap_oth _ _ (by omega)).trans HB3.out, set_box4 HX3.out _, owns_set HO3.out _ _ _ (by omega), HL3.out.setCell (p := ⟨w.heap.size + 1 + 1, 3, none⟩) (by show w.heap.size ≤ w.heap.size + 1 + 1; omega) _⟩
               case measure => simp [intOf]; omega
         · have hke : k = N := by omega
           subst hke
           have r0 : wr.cell? ⟨w.heap.size, 0, none⟩ = some (.string ⟨#[]⟩) := by rw [cell_of_row _ _ 0 _ _ _ HRb.out]; rfl
           have r1 : wr.cell? ⟨w.heap.size, 1, none⟩ = some (.slice none 0 0) := by rw [cell_of_row _ _ 1 _ _ _ HRb.out]; rfl
           have r2 : wr.cell? ⟨w.heap.size, 2, none⟩ = some (.slice none 0 0) := by rw [cell_of_row _ _ 2 _ _ _ HRb.out]; rfl
           have r3 : wr.cell? ⟨w.heap.size, 3, none⟩ = some (.slice none 0 0) := by rw [cell_of_row _ _ 3 _ _ _ HRb.out]; rfl
           have q0 := Go.Joins.unfrozen_of_block HRb.out 0
           have q1 := Go.Joins.unfrozen_of_block HRb.out 1
           have q2 := Go.Joins.unfrozen_of_block HRb.out 2
           have q3 := Go.Joins.unfrozen_of_block HRb.out 3
           have e0 : wr.cell? ⟨w.heap.size + 1 + 1, 0, none⟩ = some (.string s) := by rw [cell_of_row _ _ 0 _ _ _ HX.out]; rfl
           have e1 : wr.cell? ⟨w.heap.size + 1 + 1, 1, none⟩ = some (.slice (some ⟨w.heap.size + 1, 0, none⟩) 1 1) := by rw [cell_of_row _ _ 1 _ _ _ HX.out]; rfl
           have e2 : wr.cell? ⟨w.heap.size + 1 + 1, 2, none⟩ = some (.slice none 0 0) := by rw [cell_of_row _ _ 2 _ _ _ HX.out]; rfl
           subst hvc
           go_wp2
           refine bodyPost_ret (v := .agg #[.string s, .slice (some ⟨w.heap.size + 1, 0, none⟩) 1 1, .slice none 0 0, .slice av k cv]) (by simp [results, Try.results4, go_sem, r0, r1, r2, r3]) rfl ⟨_, rfl, aWorld HNO.out ?_ ?_, ?_⟩
           · exact (heap_oth _ _ (by omega)).trans ((heap_oth _ _ (by omega)).trans ((heap_oth _ _ (by omega)).trans ((heap_oth _ _ (by omega)).trans HBk.out)))
           · exact owns_lower (owns_set (owns_set (owns_set (owns_set HO.out _ _ _ (by omega)) _ _ _ (by omega)) _ _ _ (by omega)) _ _ _ (by omega)) (by omega)
           · exact (((HL.out.setCell (p := ⟨w.heap.size, 0, none⟩) (Nat.le_refl _) _).setCell (p := ⟨w.heap.size, 1, none⟩) (Nat.le_refl _) _).setCell (p := ⟨w.heap.size, 2, none⟩) (Nat.le_refl _) _).setCell (p := ⟨w.heap.size, 3, none⟩) (Nat.le_refl _) _
end Go.Proofs.Ytfpkphkgnolkkaa
