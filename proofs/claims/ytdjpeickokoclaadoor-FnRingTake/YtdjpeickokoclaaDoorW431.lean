/-
  The words of a block: impl.spread.
-/
import Derived.Test.YtdjpeickokoclaaDoorGW434
import Derived.Laws.CopyOwn
namespace Go.Proofs.YtdjpeickokoclaaDoor
open Go.RowKit
set_option linter.unusedVariables false
/-- A block of bytes as a value. -/
def blkC (bs : List UInt8) : Array Value := (bs.map fun b => .int .u8 (wn (bw b))).toArray
/-- Sixty-four words as a value. -/
def schC (l : List Wd) : Array Value := (wordCells l).toArray
def zerC : Array Value := #[.int .u32 0, .int .u32 0, .int .u32 0, .int .u32 0, .int .u32 0, .int .u32 0, .int .u32 0, .int .u32 0, .int .u32 0, .int .u32 0, .int .u32 0, .int .u32 0, .int .u32 0, .int .u32 0, .int .u32 0, .int .u32 0, .int .u32 0, .int .u32 0, .int .u32 0, .int .u32 0, .int .u32 0, .int .u32 0, .int .u32 0, .int .u32 0, .int .u32 0, .int .u32 0, .int .u32 0, .int .u32 0, .int .u32 0, .int .u32 0, .int .u32 0, .int .u32 0, .int .u32 0, .int .u32 0, .int .u32 0, .int .u32 0, .int .u32 0, .int .u32 0, .int .u32 0, .int .u32 0, .int .u32 0, .int .u32 0, .int .u32 0, .int .u32 0, .int .u32 0, .int .u32 0, .int .u32 0, .int .u32 0, .int .u32 0, .int .u32 0, .int .u32 0, .int .u32 0, .int .u32 0, .int .u32 0, .int .u32 0, .int .u32 0, .int .u32 0, .int .u32 0, .int .u32 0, .int .u32 0, .int .u32 0, .int .u32 0, .int .u32 0, .int .u32 0]
theorem blkC_at {bs : List UInt8} {i : Nat} (h : i < bs.length) : (blkC bs)[i]? = some (.int .u8 (wn (bw (bAt bs i)))) := by
  unfold blkC bAt
  rw [List.getElem?_toArray, List.getElem?_map, List.getElem?_eq_getElem h, List.getD_eq_getElem?_getD, List.getElem?_eq_getElem h]
  rfl
theorem bytes_of_blk {w : World} {B : Nat} {bs : List UInt8} {t : TypeId} (h : w.heap[B]? = some (.cells (blkC bs) t (0, 0))) : BytesAt w B 0 bs :=
  ⟨(Array.getElem?_eq_some_iff.1 h).1, fun i hi => by rw [Nat.zero_add, cell_of_row w B i _ _ _ h]; exact blkC_at hi⟩
theorem rowIs_zer {w : World} {b : Nat} {t : TypeId} (h : w.heap[b]? = some (.cells zerC t (0, 0))) : w.rowIs b t 64 (fun i => zerC[i]?.getD (.bool false)) := ⟨zerC, h, rfl, fun i hi => by have : i < zerC.size := hi; simp [this]⟩
theorem cell_off431 {w : World} (b i : Nat) {j : Nat} (v : Value) (hne : j ≠ i) : (w.setCell ⟨b, i, none⟩ v).cell? ⟨b, j, none⟩ = w.cell? ⟨b, j, none⟩ := by
  apply World.cell?_setCell_other
  intro e
  cases e
  exact hne rfl
theorem cell_set431 {w : World} {B b : Nat} (i j : Nat) (v : Value) (hne : B ≠ b) : (w.setCell ⟨b, i, none⟩ v).cell? ⟨B, j, none⟩ = w.cell? ⟨B, j, none⟩ := World.cell?_of_block (w := w) (Below.heap_setCell _ _ _ B (by simpa using hne))
theorem bytes_set431 {w : World} {B b i : Nat} {v : Value} {bs : List UInt8} (h : BytesAt w B 0 bs) (hne : B ≠ b) : BytesAt (w.setCell ⟨b, i, none⟩ v) B 0 bs :=
  ⟨by rw [Go.Deep.nblk_setCell]; exact h.1, fun j hj => by rw [World.cell?_of_block (w := w) (Below.heap_setCell _ _ _ B (by simpa using hne))]; exact h.2 j hj⟩
theorem wAt_last431 {l : List Wd} {k : Nat} (h : l.length = k) (x : Wd) : wAt (l ++ [x]) k = x := by
  unfold wAt
  rw [List.getD_eq_getElem?_getD, List.getElem?_append_right (by omega), h, Nat.sub_self]; rfl
theorem swap431 (a b c d : Wd) : a + b + c + d = a + c + b + d := by rw [BitVec.add_assoc a b c, BitVec.add_comm b c, ← BitVec.add_assoc]
set_option maxRecDepth 100000 in
set_option maxHeartbeats 8000000 in
theorem spread_any (w : World) (bs : List UInt8) (hb : bs.length = 64) :
    Calls Tryd.prog 64 #[.agg (blkC bs)] w fun e w' => e = .returned (.agg (schC (schedTo bs 64))) ∧ Below w.heap.size w w' := by
  have hr1 := wn_wrap
  have hr2 := wn_shl8
  have hr3 := wn_shl16
  have hr4 := wn_shl24
  have hr5 := wn_or
  have hr6 := wn_xor
  have hr7 := wn_add
  have hr8 : ∀ a : Wd, wn a / (8 : Int) = wn (a >>> 3) := fun a => wn_shr a 3
  have hr9 : ∀ a : Wd, wn a / (1024 : Int) = wn (a >>> 10) := fun a => wn_shr a 10
  have hcells : (Value.agg (blkC bs)).cells = blkC bs := rfl
  have hzer : (#[.int .u32 0, .int .u32 0, .int .u32 0, .int .u32 0, .int .u32 0, .int .u32 0, .int .u32 0, .int .u32 0, .int .u32 0, .int .u32 0, .int .u32 0, .int .u32 0, .int .u32 0, .int .u32 0, .int .u32 0, .int .u32 0, .int .u32 0, .int .u32 0, .int .u32 0, .int .u32 0, .int .u32 0, .int .u32 0, .int .u32 0, .int .u32 0, .int .u32 0, .int .u32 0, .int .u32 0, .int .u32 0, .int .u32 0, .int .u32 0, .int .u32 0, .int .u32 0, .int .u32 0, .int .u32 0, .int .u32 0, .int .u32 0, .int .u32 0, .int .u32 0, .int .u32 0, .int .u32 0, .int .u32 0, .int .u32 0, .int .u32 0, .int .u32 0, .int .u32 0, .int .u32 0, .int .u32 0, .int .u32 0, .int .u32 0, .int .u32 0, .int .u32 0, .int .u32 0, .int .u32 0, .int .u32 0, .int .u32 0, .int .u32 0, .int .u32 0, .int .u32 0, .int .u32 0, .int .u32 0, .int .u32 0, .int .u32 0, .int .u32 0, .int .u32 0] : Array Value) = zerC := rfl
  obtain ⟨w0, hw0⟩ : ∃ x, ((w.alloc (.cells (blkC bs) 74)).alloc (.cells zerC 105)).alloc (.cells zerC 105) = x := ⟨_, rfl⟩
  have N0 : w0.heap[w.heap.size]? = some (.cells (blkC bs) 74 (0, 0)) := by rw [← hw0, Below.heap_alloc _ _ _ (by simp <;> omega), Below.heap_alloc _ _ _ (by simp <;> omega), heap_alloc_last]
  have N1 : w0.heap[w.heap.size + 1]? = some (.cells zerC 105 (0, 0)) := by
    rw [← hw0, Below.heap_alloc _ _ _ (by simp <;> omega)]
    have := heap_alloc_last (w.alloc (.cells (blkC bs) 74)) (.cells zerC 105)
    simpa using this
  have N2 : w0.heap[w.heap.size + 1 + 1]? = some (.cells zerC 105 (0, 0)) := by
    rw [← hw0]
    have := heap_alloc_last ((w.alloc (.cells (blkC bs) 74)).alloc (.cells zerC 105)) (.cells zerC 105)
    simpa using this
  have HB0 : Hid (Below w.heap.size w w0) := by show Below _ _ _; rw [← hw0]; exact (((Below.refl _ _).alloc (Nat.le_refl _) _).alloc (by simp <;> omega) _).alloc (by simp <;> omega) _
  have H0 : Hid (BytesAt w0 w.heap.size 0 bs) := bytes_of_blk N0
  have H1 : Hid (w0.heap[w.heap.size + 1]? = some (.cells zerC 105 (0, 0))) := N1
  have H2 : Hid (w0.rowIs (w.heap.size + 1 + 1) 105 64 (fun i => zerC[i]?.getD (.bool false))) := rowIs_zer N2
  have HZ : Hid (w0.heap.size = w.heap.size + 3) := by show _ = _; rw [← hw0]; simp
  clear N0 N1 N2
  go_enter Tryd.func64, Tryd.ntmps64
  go_wp2_with fail
  try rw [hzer]
  try rw [hw0]
  clear hw0 hzer hcells
  go_loopw [7] (fun i wr => ∃ (k : Nat) (f : Nat → Value), k ≤ 64 ∧ i = .int .i64 k ∧ BytesAt wr w.heap.size 0 bs ∧ wr.heap[w.heap.size + 1]? = some (.cells zerC 105 (0, 0)) ∧ wr.rowIs (w.heap.size + 1 + 1) 105 64 f ∧ (∀ j, j < k → f j = .int .u32 (wn (wAt (schedTo bs k) j))) ∧ Below w.heap.size w wr) (fun i _ => 64 - (intOf i).toNat)
  case atStart => exact ⟨0, _, Nat.zero_le _, rfl, H0.out, H1.out, H2.out, fun j hj => absurd hj (by omega), HB0.out⟩
  case round =>
    obtain ⟨k, f, hk, rfl, hby, hz1, hrow, hf, hbl⟩ := hrel
    have HBY : Hid (BytesAt wr w.heap.size 0 bs) := hby
    have HZ1 : Hid (wr.heap[w.heap.size + 1]? = some (.cells zerC 105 (0, 0))) := hz1
    have HROW : Hid (wr.rowIs (w.heap.size + 1 + 1) 105 64 f) := hrow
    have HF : Hid (∀ j, j < k → f j = .int .u32 (wn (wAt (schedTo bs k) j))) := hf
    have HL : Hid (Below w.heap.size w wr) := hbl
    clear hby hz1 hrow hf hbl
    by_cases hlt : k < 64
    · have hlt' : (k : Int) < 64 := by omega
      have cst : wr.cell? ⟨w.heap.size + 1 + 1, k, none⟩ = some (f k) := HROW.out.cell hlt
      have cfz : wr.frozen? ⟨w.heap.size + 1 + 1, k, none⟩ = false := HROW.out.frozen k
      by_cases h16 : k < 16
      · have h16' : (k : Int) < 16 := by omega
        obtain ⟨q0, hq0⟩ : ∃ q, 4 * k + 0 = q := ⟨_, rfl⟩
        obtain ⟨b0, hbb0⟩ : ∃ b, bAt bs q0 = b := ⟨_, rfl⟩
        have x0 : wr.cell? ⟨w.heap.size, q0, none⟩ = some (.int .u8 (wn (bw b0))) := by rw [← hbb0]; have := HBY.out.2 q0 (by omega); rw [Nat.zero_add] at this; exact this
        have l0 : (q0 : Int) < 64 := by omega
        have p0 : q0 < 64 := by omega
        obtain ⟨q1, hq1⟩ : ∃ q, 4 * k + 1 = q := ⟨_, rfl⟩
        obtain ⟨b1, hbb1⟩ : ∃ b, bAt bs q1 = b := ⟨_, rfl⟩
        have x1 : wr.cell? ⟨w.heap.size, q1, none⟩ = some (.int .u8 (wn (bw b1))) := by rw [← hbb1]; have := HBY.out.2 q1 (by omega); rw [Nat.zero_add] at this; exact this
        have l1 : (q1 : Int) < 64 := by omega
        have p1 : q1 < 64 := by omega
        obtain ⟨q2, hq2⟩ : ∃ q, 4 * k + 2 = q := ⟨_, rfl⟩
        obtain ⟨b2, hbb2⟩ : ∃ b, bAt bs q2 = b := ⟨_, rfl⟩
        have x2 : wr.cell? ⟨w.heap.size, q2, none⟩ = some (.int .u8 (wn (bw b2))) := by rw [← hbb2]; have := HBY.out.2 q2 (by omega); rw [Nat.zero_add] at this; exact this
        have l2 : (q2 : Int) < 64 := by omega
        have p2 : q2 < 64 := by omega
        obtain ⟨q3, hq3⟩ : ∃ q, 4 * k + 3 = q := ⟨_, rfl⟩
        obtain ⟨b3, hbb3⟩ : ∃ b, bAt bs q3 = b := ⟨_, rfl⟩
        have x3 : wr.cell? ⟨w.heap.size, q3, none⟩ = some (.int .u8 (wn (bw b3))) := by rw [← hbb3]; have := HBY.out.2 q3 (by omega); rw [Nat.zero_add] at this; exact this
        have l3 : (q3 : Int) < 64 := by omega
        have p3 : q3 < 64 := by omega
        have m0 : IntKind.i64.wrap (4 * (k : Int)) = (q0 : Int) := by rw [show 4 * (k : Int) = (q0 : Int) by omega]; exact IntWalk.i64_in _ (by omega)
        have m1 : IntKind.i64.wrap ((q0 : Int) + 1) = (q1 : Int) := by rw [show (q0 : Int) + 1 = (q1 : Int) by omega]; exact IntWalk.i64_in _ (by omega)
        have m2 : IntKind.i64.wrap ((q0 : Int) + 2) = (q2 : Int) := by rw [show (q0 : Int) + 2 = (q2 : Int) by omega]; exact IntWalk.i64_in _ (by omega)
        have m3 : IntKind.i64.wrap ((q0 : Int) + 3) = (q3 : Int) := by rw [show (q0 : Int) + 3 = (q3 : Int) by omega]; exact IntWalk.i64_in _ (by omega)
        have HS : Hid (schedTo bs (k + 1) = schedTo bs k ++ [((bw b0 <<< 24) ||| (bw b1 <<< 16) ||| (bw b2 <<< 8) ||| bw b3)]) := by show _ = _; rw [sched_lo h16, hq1, hq2, hq3, show 4 * k = q0 from hq0, hbb0, hbb1, hbb2, hbb3]; rfl
        clear hq0 hbb0 hq1 hbb1 hq2 hbb2 hq3 hbb3
        go_wp2_with fail
        refine wp_region_held_drew (S := (fun w' => w'.cell? ⟨w.heap.size, q0, none⟩ = some (.int .u8 (wn (bw b0))) ∧ w'.cell? ⟨w.heap.size, q1, none⟩ = some (.int .u8 (wn (bw b1))) ∧ w'.cell? ⟨w.heap.size, q2, none⟩ = some (.int .u8 (wn (bw b2))) ∧ w'.cell? ⟨w.heap.size, q3, none⟩ = some (.int .u8 (wn (bw b3))))) (by kernel_rfl) ?_ (fun hHeld => ?_)
        · (first | go_keep | ((try dsimp only); go_keep))
        refine wpAnyH_takeD (i := 0) (d := 12) (v := .int .i64 (k : Int)) rfl (by kernel_rfl) (by kernel_rfl) (by kernel_rfl) (fun _ _ _ h => h) (Or.inl ⟨by rfl, by intro w hSw; (try dsimp only at hSw); go_simp⟩) (by assumption) rfl ?_
        simp only [Act.put, List.setIfInBounds_toArray, List.set_cons_zero, List.set_cons_succ]
        refine wpAnyH_takeD (i := 1) (d := 13) (v := .int .i64 (k : Int)) rfl (by kernel_rfl) (by kernel_rfl) (by kernel_rfl) (fun _ _ _ h => h) (Or.inl ⟨by rfl, by intro w hSw; (try dsimp only at hSw); go_simp⟩) (by assumption) rfl ?_
        simp only [Act.put, List.setIfInBounds_toArray, List.set_cons_zero, List.set_cons_succ]
        refine wpAnyH_takeD (i := 2) (d := 14) (v := .int .i64 (q0 : Int)) rfl (by kernel_rfl) (by kernel_rfl) (by kernel_rfl) (fun _ _ _ h => h) (Or.inl ⟨by rfl, by intro w hSw; (try dsimp only at hSw); go_simp⟩) (by assumption) rfl ?_
        simp only [Act.put, List.setIfInBounds_toArray, List.set_cons_zero, List.set_cons_succ]
        refine wpAnyH_takeD (i := 3) (d := 15) (v := .pointer (some ⟨w.heap.size, q0, none⟩)) rfl (by kernel_rfl) (by kernel_rfl) (by kernel_rfl) (fun _ _ _ h => h) (Or.inl ⟨by rfl, by intro w hSw; (try dsimp only at hSw); go_simp⟩) (by assumption) rfl ?_
        simp only [Act.put, List.setIfInBounds_toArray, List.set_cons_zero, List.set_cons_succ]
        refine wpAnyH_takeD (i := 4) (d := 16) (v := .int .u8 (wn (bw b0))) rfl (by kernel_rfl) (by kernel_rfl) (by kernel_rfl) (fun _ _ _ h => h) (Or.inl ⟨by rfl, by intro w hSw; (try dsimp only at hSw); go_simp⟩) (by assumption) rfl ?_
        simp only [Act.put, List.setIfInBounds_toArray, List.set_cons_zero, List.set_cons_succ]
        refine wpAnyH_takeD (i := 5) (d := 17) (v := .int .u32 (wn (bw b0))) rfl (by kernel_rfl) (by kernel_rfl) (by kernel_rfl) (fun _ _ _ h => h) (Or.inl ⟨by rfl, by intro w hSw; (try dsimp only at hSw); go_simp⟩) (by assumption) rfl ?_
        simp only [Act.put, List.setIfInBounds_toArray, List.set_cons_zero, List.set_cons_succ]
        refine wpAnyH_takeD (i := 6) (d := 18) (v := .int .u32 (wn ((bw b0) <<< 24))) rfl (by kernel_rfl) (by kernel_rfl) (by kernel_rfl) (fun _ _ _ h => h) (Or.inl ⟨by rfl, by intro w hSw; (try dsimp only at hSw); go_simp⟩) (by assumption) rfl ?_
        simp only [Act.put, List.setIfInBounds_toArray, List.set_cons_zero, List.set_cons_succ]
        refine wpAnyH_takeD (i := 7) (d := 19) (v := .int .i64 (k : Int)) rfl (by kernel_rfl) (by kernel_rfl) (by kernel_rfl) (fun _ _ _ h => h) (Or.inl ⟨by rfl, by intro w hSw; (try dsimp only at hSw); go_simp⟩) (by assumption) rfl ?_
        simp only [Act.put, List.setIfInBounds_toArray, List.set_cons_zero, List.set_cons_succ]
        refine wpAnyH_takeD (i := 8) (d := 20) (v := .int .i64 (q0 : Int)) rfl (by kernel_rfl) (by kernel_rfl) (by kernel_rfl) (fun _ _ _ h => h) (Or.inl ⟨by rfl, by intro w hSw; (try dsimp only at hSw); go_simp⟩) (by assumption) rfl ?_
        simp only [Act.put, List.setIfInBounds_toArray, List.set_cons_zero, List.set_cons_succ]
        refine wpAnyH_takeD (i := 9) (d := 21) (v := .int .i64 (q1 : Int)) rfl (by kernel_rfl) (by kernel_rfl) (by kernel_rfl) (fun _ _ _ h => h) (Or.inl ⟨by rfl, by intro w hSw; (try dsimp only at hSw); go_simp⟩) (by assumption) rfl ?_
        simp only [Act.put, List.setIfInBounds_toArray, List.set_cons_zero, List.set_cons_succ]
        refine wpAnyH_takeD (i := 10) (d := 22) (v := .pointer (some ⟨w.heap.size, q1, none⟩)) rfl (by kernel_rfl) (by kernel_rfl) (by kernel_rfl) (fun _ _ _ h => h) (Or.inl ⟨by rfl, by intro w hSw; (try dsimp only at hSw); go_simp⟩) (by assumption) rfl ?_
        simp only [Act.put, List.setIfInBounds_toArray, List.set_cons_zero, List.set_cons_succ]
        refine wpAnyH_takeD (i := 11) (d := 23) (v := .int .u8 (wn (bw b1))) rfl (by kernel_rfl) (by kernel_rfl) (by kernel_rfl) (fun _ _ _ h => h) (Or.inl ⟨by rfl, by intro w hSw; (try dsimp only at hSw); go_simp⟩) (by assumption) rfl ?_
        simp only [Act.put, List.setIfInBounds_toArray, List.set_cons_zero, List.set_cons_succ]
        refine wpAnyH_takeD (i := 12) (d := 24) (v := .int .u32 (wn (bw b1))) rfl (by kernel_rfl) (by kernel_rfl) (by kernel_rfl) (fun _ _ _ h => h) (Or.inl ⟨by rfl, by intro w hSw; (try dsimp only at hSw); go_simp⟩) (by assumption) rfl ?_
        simp only [Act.put, List.setIfInBounds_toArray, List.set_cons_zero, List.set_cons_succ]
        refine wpAnyH_takeD (i := 13) (d := 25) (v := .int .u32 (wn ((bw b1) <<< 16))) rfl (by kernel_rfl) (by kernel_rfl) (by kernel_rfl) (fun _ _ _ h => h) (Or.inl ⟨by rfl, by intro w hSw; (try dsimp only at hSw); go_simp⟩) (by assumption) rfl ?_
        simp only [Act.put, List.setIfInBounds_toArray, List.set_cons_zero, List.set_cons_succ]
        refine wpAnyH_takeD (i := 14) (d := 26) (v := .int .u32 (wn (((bw b0) <<< 24) ||| ((bw b1) <<< 16)))) rfl (by kernel_rfl) (by kernel_rfl) (by kernel_rfl) (fun _ _ _ h => h) (Or.inl ⟨by rfl, by intro w hSw; (try dsimp only at hSw); go_simp⟩) (by assumption) rfl ?_
        simp only [Act.put, List.setIfInBounds_toArray, List.set_cons_zero, List.set_cons_succ]
        refine wpAnyH_takeD (i := 15) (d := 27) (v := .int .i64 (k : Int)) rfl (by kernel_rfl) (by kernel_rfl) (by kernel_rfl) (fun _ _ _ h => h) (Or.inl ⟨by rfl, by intro w hSw; (try dsimp only at hSw); go_simp⟩) (by assumption) rfl ?_
        simp only [Act.put, List.setIfInBounds_toArray, List.set_cons_zero, List.set_cons_succ]
        refine wpAnyH_takeD (i := 16) (d := 28) (v := .int .i64 (q0 : Int)) rfl (by kernel_rfl) (by kernel_rfl) (by kernel_rfl) (fun _ _ _ h => h) (Or.inl ⟨by rfl, by intro w hSw; (try dsimp only at hSw); go_simp⟩) (by assumption) rfl ?_
        simp only [Act.put, List.setIfInBounds_toArray, List.set_cons_zero, List.set_cons_succ]
        refine wpAnyH_takeD (i := 17) (d := 29) (v := .int .i64 (q2 : Int)) rfl (by kernel_rfl) (by kernel_rfl) (by kernel_rfl) (fun _ _ _ h => h) (Or.inl ⟨by rfl, by intro w hSw; (try dsimp only at hSw); go_simp⟩) (by assumption) rfl ?_
        simp only [Act.put, List.setIfInBounds_toArray, List.set_cons_zero, List.set_cons_succ]
        refine wpAnyH_takeD (i := 18) (d := 30) (v := .pointer (some ⟨w.heap.size, q2, none⟩)) rfl (by kernel_rfl) (by kernel_rfl) (by kernel_rfl) (fun _ _ _ h => h) (Or.inl ⟨by rfl, by intro w hSw; (try dsimp only at hSw); go_simp⟩) (by assumption) rfl ?_
        simp only [Act.put, List.setIfInBounds_toArray, List.set_cons_zero, List.set_cons_succ]
        refine wpAnyH_takeD (i := 19) (d := 31) (v := .int .u8 (wn (bw b2))) rfl (by kernel_rfl) (by kernel_rfl) (by kernel_rfl) (fun _ _ _ h => h) (Or.inl ⟨by rfl, by intro w hSw; (try dsimp only at hSw); go_simp⟩) (by assumption) rfl ?_
        simp only [Act.put, List.setIfInBounds_toArray, List.set_cons_zero, List.set_cons_succ]
        refine wpAnyH_takeD (i := 20) (d := 32) (v := .int .u32 (wn (bw b2))) rfl (by kernel_rfl) (by kernel_rfl) (by kernel_rfl) (fun _ _ _ h => h) (Or.inl ⟨by rfl, by intro w hSw; (try dsimp only at hSw); go_simp⟩) (by assumption) rfl ?_
        simp only [Act.put, List.setIfInBounds_toArray, List.set_cons_zero, List.set_cons_succ]
        refine wpAnyH_takeD (i := 21) (d := 33) (v := .int .u32 (wn ((bw b2) <<< 8))) rfl (by kernel_rfl) (by kernel_rfl) (by kernel_rfl) (fun _ _ _ h => h) (Or.inl ⟨by rfl, by intro w hSw; (try dsimp only at hSw); go_simp⟩) (by assumption) rfl ?_
        simp only [Act.put, List.setIfInBounds_toArray, List.set_cons_zero, List.set_cons_succ]
        refine wpAnyH_takeD (i := 22) (d := 34) (v := .int .u32 (wn ((((bw b0) <<< 24) ||| ((bw b1) <<< 16)) ||| ((bw b2) <<< 8)))) rfl (by kernel_rfl) (by kernel_rfl) (by kernel_rfl) (fun _ _ _ h => h) (Or.inl ⟨by rfl, by intro w hSw; (try dsimp only at hSw); go_simp⟩) (by assumption) rfl ?_
        simp only [Act.put, List.setIfInBounds_toArray, List.set_cons_zero, List.set_cons_succ]
        refine wpAnyH_takeD (i := 23) (d := 35) (v := .int .i64 (k : Int)) rfl (by kernel_rfl) (by kernel_rfl) (by kernel_rfl) (fun _ _ _ h => h) (Or.inl ⟨by rfl, by intro w hSw; (try dsimp only at hSw); go_simp⟩) (by assumption) rfl ?_
        simp only [Act.put, List.setIfInBounds_toArray, List.set_cons_zero, List.set_cons_succ]
        refine wpAnyH_takeD (i := 24) (d := 36) (v := .int .i64 (q0 : Int)) rfl (by kernel_rfl) (by kernel_rfl) (by kernel_rfl) (fun _ _ _ h => h) (Or.inl ⟨by rfl, by intro w hSw; (try dsimp only at hSw); go_simp⟩) (by assumption) rfl ?_
        simp only [Act.put, List.setIfInBounds_toArray, List.set_cons_zero, List.set_cons_succ]
        refine wpAnyH_takeD (i := 25) (d := 37) (v := .int .i64 (q3 : Int)) rfl (by kernel_rfl) (by kernel_rfl) (by kernel_rfl) (fun _ _ _ h => h) (Or.inl ⟨by rfl, by intro w hSw; (try dsimp only at hSw); go_simp⟩) (by assumption) rfl ?_
        simp only [Act.put, List.setIfInBounds_toArray, List.set_cons_zero, List.set_cons_succ]
        refine wpAnyH_takeD (i := 26) (d := 38) (v := .pointer (some ⟨w.heap.size, q3, none⟩)) rfl (by kernel_rfl) (by kernel_rfl) (by kernel_rfl) (fun _ _ _ h => h) (Or.inl ⟨by rfl, by intro w hSw; (try dsimp only at hSw); go_simp⟩) (by assumption) rfl ?_
        simp only [Act.put, List.setIfInBounds_toArray, List.set_cons_zero, List.set_cons_succ]
        refine wpAnyH_takeD (i := 27) (d := 39) (v := .int .u8 (wn (bw b3))) rfl (by kernel_rfl) (by kernel_rfl) (by kernel_rfl) (fun _ _ _ h => h) (Or.inl ⟨by rfl, by intro w hSw; (try dsimp only at hSw); go_simp⟩) (by assumption) rfl ?_
        simp only [Act.put, List.setIfInBounds_toArray, List.set_cons_zero, List.set_cons_succ]
        refine wpAnyH_takeD (i := 28) (d := 40) (v := .int .u32 (wn (bw b3))) rfl (by kernel_rfl) (by kernel_rfl) (by kernel_rfl) (fun _ _ _ h => h) (Or.inl ⟨by rfl, by intro w hSw; (try dsimp only at hSw); go_simp⟩) (by assumption) rfl ?_
        simp only [Act.put, List.setIfInBounds_toArray, List.set_cons_zero, List.set_cons_succ]
        refine wpAnyH_takeD (i := 29) (d := 41) (v := .int .u32 (wn (((((bw b0) <<< 24) ||| ((bw b1) <<< 16)) ||| ((bw b2) <<< 8)) ||| (bw b3)))) rfl (by kernel_rfl) (by kernel_rfl) (by kernel_rfl) (fun _ _ _ h => h) (Or.inl ⟨by rfl, by intro w hSw; (try dsimp only at hSw); go_simp⟩) (by assumption) rfl ?_
        simp only [Act.put, List.setIfInBounds_toArray, List.set_cons_zero, List.set_cons_succ]
        refine wpAnyH_takeD (i := 30) (d := 42) (v := .pointer (some ⟨w.heap.size + 1 + 1, k, none⟩)) rfl (by kernel_rfl) (by kernel_rfl) (by kernel_rfl) (fun _ _ _ h => h) (Or.inl ⟨by rfl, by intro w hSw; (try dsimp only at hSw); go_simp⟩) (by assumption) rfl ?_
        simp only [Act.put, List.setIfInBounds_toArray, List.set_cons_zero, List.set_cons_succ]
        refine wpAnyH_ready (rs := [31]) (by kernel_rfl) (by simp) ?_
        refine AllReadyH.cons rfl (fun K hK => ?_) AllReadyH.nil
        go_simp
        refine hK.out _ _ ?_ (fun hHeld => ?_)
        · exact ⟨(cell_set431 _ _ _ (by omega)).trans x0, (cell_set431 _ _ _ (by omega)).trans x1, (cell_set431 _ _ _ (by omega)).trans x2, (cell_set431 _ _ _ (by omega)).trans x3⟩
        clear hK K
        try simp only [Act.put, List.setIfInBounds_toArray, List.set_cons_zero, List.set_cons_succ]
        refine wpAnyH_done (by kernel_rfl) ?_ _
        obtain ⟨w9, hw9⟩ : ∃ x, x = (World.setCell wr ⟨w.heap.size + 1 + 1, k, none⟩ (.int .u32 (wn (((((bw b0) <<< 24) ||| ((bw b1) <<< 16)) ||| ((bw b2) <<< 8)) ||| (bw b3))))) := ⟨_, rfl⟩
        have R9 : Hid (w9.rowIs (w.heap.size + 1 + 1) 105 64 (fun j => if j = k then .int .u32 (wn (((((bw b0) <<< 24) ||| ((bw b1) <<< 16)) ||| ((bw b2) <<< 8)) ||| (bw b3))) else f j)) := by show World.rowIs _ _ _ _ _; rw [hw9]; exact HROW.out.set k _
        have Y9 : Hid (BytesAt w9 w.heap.size 0 bs) := by rw [hw9]; exact bytes_set431 HBY.out (by omega)
        have Z9 : Hid (w9.heap[w.heap.size + 1]? = some (.cells zerC 105 (0, 0))) := by show _ = _; rw [hw9, Below.heap_setCell _ _ _ _ (by simp)]; exact HZ1.out
        have L9 : Hid (Below w.heap.size w w9) := by show Below _ _ _; rw [hw9]; exact HL.out.setCell (p := ⟨w.heap.size + 1 + 1, k, none⟩) (by show w.heap.size ≤ w.heap.size + 1 + 1; omega) _
        have F9 : Hid (∀ j, j < k + 1 → (if j = k then Value.int .u32 (wn (((((bw b0) <<< 24) ||| ((bw b1) <<< 16)) ||| ((bw b2) <<< 8)) ||| (bw b3))) else f j) = .int .u32 (wn (wAt (schedTo bs (k + 1)) j))) := fun j hj => by
          by_cases e : j = k
          · rw [if_pos e, e, HS.out]; exact congrArg (fun x => Value.int .u32 (wn x)) (wAt_last431 (schedTo_len bs k) _).symm
          · rw [if_neg e, HF.out j (by omega), schedTo_old bs (by omega)]
        go_wp2
        go_roundw
        case rel => exact ⟨k + 1, _, by omega, by go_num, by first | (rw [← hw9]; exact Y9.out) | exact by rw [hw9] at Y9; exact Y9.out, by rw [hw9] at Z9; exact Z9.out, by rw [hw9] at R9; exact R9.out, F9.out, by rw [hw9] at L9; exact ⟨L9.out.os, L9.out.tape, L9.out.output, L9.out.size, L9.out.block⟩⟩
        case measure => simp [intOf]; omega
      · have h16' : ¬ (k : Int) < 16 := by omega
        obtain ⟨q0, hq0⟩ : ∃ q, k - 16 = q := ⟨_, rfl⟩
        obtain ⟨u0, hu0⟩ : ∃ u, wAt (schedTo bs k) q0 = u := ⟨_, rfl⟩
        have m0 : IntKind.i64.wrap ((k : Int) - 16) = (q0 : Int) := by rw [show (k : Int) - 16 = (q0 : Int) by omega]; exact IntWalk.i64_in _ (by omega)
        have l0 : (q0 : Int) < 64 := by omega
        have p0 : q0 < 64 := by omega
        have g0 : q0 ≠ k := by omega
        have x0 : wr.cell? ⟨w.heap.size + 1 + 1, q0, none⟩ = some (.int .u32 (wn u0)) := by rw [← hu0, ← HF.out q0 (by omega)]; exact HROW.out.cell p0
        obtain ⟨q1, hq1⟩ : ∃ q, k - 15 = q := ⟨_, rfl⟩
        obtain ⟨u1, hu1⟩ : ∃ u, wAt (schedTo bs k) q1 = u := ⟨_, rfl⟩
        have m1 : IntKind.i64.wrap ((k : Int) - 15) = (q1 : Int) := by rw [show (k : Int) - 15 = (q1 : Int) by omega]; exact IntWalk.i64_in _ (by omega)
        have l1 : (q1 : Int) < 64 := by omega
        have p1 : q1 < 64 := by omega
        have g1 : q1 ≠ k := by omega
        have x1 : wr.cell? ⟨w.heap.size + 1 + 1, q1, none⟩ = some (.int .u32 (wn u1)) := by rw [← hu1, ← HF.out q1 (by omega)]; exact HROW.out.cell p1
        obtain ⟨q2, hq2⟩ : ∃ q, k - 7 = q := ⟨_, rfl⟩
        obtain ⟨u2, hu2⟩ : ∃ u, wAt (schedTo bs k) q2 = u := ⟨_, rfl⟩
        have m2 : IntKind.i64.wrap ((k : Int) - 7) = (q2 : Int) := by rw [show (k : Int) - 7 = (q2 : Int) by omega]; exact IntWalk.i64_in _ (by omega)
        have l2 : (q2 : Int) < 64 := by omega
        have p2 : q2 < 64 := by omega
        have g2 : q2 ≠ k := by omega
        have x2 : wr.cell? ⟨w.heap.size + 1 + 1, q2, none⟩ = some (.int .u32 (wn u2)) := by rw [← hu2, ← HF.out q2 (by omega)]; exact HROW.out.cell p2
        obtain ⟨q3, hq3⟩ : ∃ q, k - 2 = q := ⟨_, rfl⟩
        obtain ⟨u3, hu3⟩ : ∃ u, wAt (schedTo bs k) q3 = u := ⟨_, rfl⟩
        have m3 : IntKind.i64.wrap ((k : Int) - 2) = (q3 : Int) := by rw [show (k : Int) - 2 = (q3 : Int) by omega]; exact IntWalk.i64_in _ (by omega)
        have l3 : (q3 : Int) < 64 := by omega
        have p3 : q3 < 64 := by omega
        have g3 : q3 ≠ k := by omega
        have x3 : wr.cell? ⟨w.heap.size + 1 + 1, q3, none⟩ = some (.int .u32 (wn u3)) := by rw [← hu3, ← HF.out q3 (by omega)]; exact HROW.out.cell p3
        have HS : Hid (schedTo bs (k + 1) = schedTo bs k ++ [u0 + u2 + (ror u1 7 ^^^ ror u1 18 ^^^ (u1 >>> 3)) + (ror u3 17 ^^^ ror u3 19 ^^^ (u3 >>> 10))]) := by show _ = _; rw [sched_hi h16, hq0, hq1, hq2, hq3, hu0, hu1, hu2, hu3]; exact congrArg (fun x => schedTo bs k ++ [x]) (swap431 u0 (sg0 u1) u2 (sg1 u3))
        clear hq0 hu0 hq1 hu1 hq2 hu2 hq3 hu3
        go_wp2_with fail
        go_quiet (fail)
        go_wp2_with fail
        refine wp_region_held_drew (S := (fun w' => w'.cell? ⟨w.heap.size + 1 + 1, q0, none⟩ = some (.int .u32 (wn u0)) ∧ w'.cell? ⟨w.heap.size + 1 + 1, q2, none⟩ = some (.int .u32 (wn u2)))) (by kernel_rfl) ?_ (fun hHeld => ?_)
        · (first | go_keep | ((try dsimp only); go_keep))
        refine wpAnyH_takeD (i := 0) (d := 51) (v := .int .i64 (k : Int)) rfl (by kernel_rfl) (by kernel_rfl) (by kernel_rfl) (fun _ _ _ h => h) (Or.inl ⟨by rfl, by intro w hSw; (try dsimp only at hSw); go_simp⟩) (by assumption) rfl ?_
        simp only [Act.put, List.setIfInBounds_toArray, List.set_cons_zero, List.set_cons_succ]
        refine wpAnyH_takeD (i := 1) (d := 52) (v := .int .i64 (k : Int)) rfl (by kernel_rfl) (by kernel_rfl) (by kernel_rfl) (fun _ _ _ h => h) (Or.inl ⟨by rfl, by intro w hSw; (try dsimp only at hSw); go_simp⟩) (by assumption) rfl ?_
        simp only [Act.put, List.setIfInBounds_toArray, List.set_cons_zero, List.set_cons_succ]
        refine wpAnyH_takeD (i := 2) (d := 53) (v := .int .i64 (q0 : Int)) rfl (by kernel_rfl) (by kernel_rfl) (by kernel_rfl) (fun _ _ _ h => h) (Or.inl ⟨by rfl, by intro w hSw; (try dsimp only at hSw); go_simp⟩) (by assumption) rfl ?_
        simp only [Act.put, List.setIfInBounds_toArray, List.set_cons_zero, List.set_cons_succ]
        refine wpAnyH_takeD (i := 3) (d := 54) (v := .pointer (some ⟨w.heap.size + 1 + 1, q0, none⟩)) rfl (by kernel_rfl) (by kernel_rfl) (by kernel_rfl) (fun _ _ _ h => h) (Or.inl ⟨by rfl, by intro w hSw; (try dsimp only at hSw); go_simp⟩) (by assumption) rfl ?_
        simp only [Act.put, List.setIfInBounds_toArray, List.set_cons_zero, List.set_cons_succ]
        refine wpAnyH_takeD (i := 4) (d := 55) (v := .int .u32 (wn (u0))) rfl (by kernel_rfl) (by kernel_rfl) (by kernel_rfl) (fun _ _ _ h => h) (Or.inl ⟨by rfl, by intro w hSw; (try dsimp only at hSw); go_simp⟩) (by assumption) rfl ?_
        simp only [Act.put, List.setIfInBounds_toArray, List.set_cons_zero, List.set_cons_succ]
        refine wpAnyH_takeD (i := 5) (d := 56) (v := .int .i64 (k : Int)) rfl (by kernel_rfl) (by kernel_rfl) (by kernel_rfl) (fun _ _ _ h => h) (Or.inl ⟨by rfl, by intro w hSw; (try dsimp only at hSw); go_simp⟩) (by assumption) rfl ?_
        simp only [Act.put, List.setIfInBounds_toArray, List.set_cons_zero, List.set_cons_succ]
        refine wpAnyH_takeD (i := 6) (d := 57) (v := .int .i64 (q2 : Int)) rfl (by kernel_rfl) (by kernel_rfl) (by kernel_rfl) (fun _ _ _ h => h) (Or.inl ⟨by rfl, by intro w hSw; (try dsimp only at hSw); go_simp⟩) (by assumption) rfl ?_
        simp only [Act.put, List.setIfInBounds_toArray, List.set_cons_zero, List.set_cons_succ]
        refine wpAnyH_takeD (i := 7) (d := 58) (v := .pointer (some ⟨w.heap.size + 1 + 1, q2, none⟩)) rfl (by kernel_rfl) (by kernel_rfl) (by kernel_rfl) (fun _ _ _ h => h) (Or.inl ⟨by rfl, by intro w hSw; (try dsimp only at hSw); go_simp⟩) (by assumption) rfl ?_
        simp only [Act.put, List.setIfInBounds_toArray, List.set_cons_zero, List.set_cons_succ]
        refine wpAnyH_takeD (i := 8) (d := 59) (v := .int .u32 (wn (u2))) rfl (by kernel_rfl) (by kernel_rfl) (by kernel_rfl) (fun _ _ _ h => h) (Or.inl ⟨by rfl, by intro w hSw; (try dsimp only at hSw); go_simp⟩) (by assumption) rfl ?_
        simp only [Act.put, List.setIfInBounds_toArray, List.set_cons_zero, List.set_cons_succ]
        refine wpAnyH_takeD (i := 9) (d := 60) (v := .int .u32 (wn (u0 + u2))) rfl (by kernel_rfl) (by kernel_rfl) (by kernel_rfl) (fun _ _ _ h => h) (Or.inl ⟨by rfl, by intro w hSw; (try dsimp only at hSw); go_simp⟩) (by assumption) rfl ?_
        simp only [Act.put, List.setIfInBounds_toArray, List.set_cons_zero, List.set_cons_succ]
        refine wpAnyH_takeD (i := 10) (d := 61) (v := .int .u32 (wn (u1))) rfl (by kernel_rfl) (by kernel_rfl) (by kernel_rfl) (fun _ _ _ h => h) (Or.inl ⟨by rfl, by intro w hSw; (try dsimp only at hSw); go_simp⟩) (by assumption) rfl ?_
        simp only [Act.put, List.setIfInBounds_toArray, List.set_cons_zero, List.set_cons_succ]
        refine wpAnyH_takeD (i := 12) (d := 63) (v := .int .u32 (wn (u1))) rfl (by kernel_rfl) (by kernel_rfl) (by kernel_rfl) (fun _ _ _ h => h) (Or.inl ⟨by rfl, by intro w hSw; (try dsimp only at hSw); go_simp⟩) (by assumption) rfl ?_
        simp only [Act.put, List.setIfInBounds_toArray, List.set_cons_zero, List.set_cons_succ]
        refine wpAnyH_takeD (i := 15) (d := 66) (v := .int .u32 (wn (u1))) rfl (by kernel_rfl) (by kernel_rfl) (by kernel_rfl) (fun _ _ _ h => h) (Or.inl ⟨by rfl, by intro w hSw; (try dsimp only at hSw); go_simp⟩) (by assumption) rfl ?_
        simp only [Act.put, List.setIfInBounds_toArray, List.set_cons_zero, List.set_cons_succ]
        refine wpAnyH_takeD (i := 16) (d := 67) (v := .int .u32 (wn ((u1) >>> 3))) rfl (by kernel_rfl) (by kernel_rfl) (by kernel_rfl) (fun _ _ _ h => h) (Or.inl ⟨by rfl, by intro w hSw; (try dsimp only at hSw); go_simp⟩) (by assumption) rfl ?_
        simp only [Act.put, List.setIfInBounds_toArray, List.set_cons_zero, List.set_cons_succ]
        refine wpAnyH_takeD (i := 19) (d := 70) (v := .int .u32 (wn (u3))) rfl (by kernel_rfl) (by kernel_rfl) (by kernel_rfl) (fun _ _ _ h => h) (Or.inl ⟨by rfl, by intro w hSw; (try dsimp only at hSw); go_simp⟩) (by assumption) rfl ?_
        simp only [Act.put, List.setIfInBounds_toArray, List.set_cons_zero, List.set_cons_succ]
        refine wpAnyH_takeD (i := 21) (d := 72) (v := .int .u32 (wn (u3))) rfl (by kernel_rfl) (by kernel_rfl) (by kernel_rfl) (fun _ _ _ h => h) (Or.inl ⟨by rfl, by intro w hSw; (try dsimp only at hSw); go_simp⟩) (by assumption) rfl ?_
        simp only [Act.put, List.setIfInBounds_toArray, List.set_cons_zero, List.set_cons_succ]
        refine wpAnyH_takeD (i := 24) (d := 75) (v := .int .u32 (wn (u3))) rfl (by kernel_rfl) (by kernel_rfl) (by kernel_rfl) (fun _ _ _ h => h) (Or.inl ⟨by rfl, by intro w hSw; (try dsimp only at hSw); go_simp⟩) (by assumption) rfl ?_
        simp only [Act.put, List.setIfInBounds_toArray, List.set_cons_zero, List.set_cons_succ]
        refine wpAnyH_takeD (i := 25) (d := 76) (v := .int .u32 (wn ((u3) >>> 10))) rfl (by kernel_rfl) (by kernel_rfl) (by kernel_rfl) (fun _ _ _ h => h) (Or.inl ⟨by rfl, by intro w hSw; (try dsimp only at hSw); go_simp⟩) (by assumption) rfl ?_
        simp only [Act.put, List.setIfInBounds_toArray, List.set_cons_zero, List.set_cons_succ]
        refine wpAnyH_ready (rs := [11]) (by kernel_rfl) (by simp) ?_
        refine AllReadyH.cons rfl (fun K hK => ?_) AllReadyH.nil
        go_simp
        refine (right_any u1 7 (by omega) (by omega) _).mono ?_
        rintro e w5 ⟨rfl, hw5⟩
        rw [hw5]
        clear hw5 w5
        refine hK.out _ _ ?_ (fun hHeld => ?_)
        · (first | go_keep | ((try dsimp only); go_keep))
        clear hK K
        try simp only [Act.put, List.setIfInBounds_toArray, List.set_cons_zero, List.set_cons_succ]
        refine wpAnyH_ready (rs := [13]) (by kernel_rfl) (by simp) ?_
        refine AllReadyH.cons rfl (fun K hK => ?_) AllReadyH.nil
        go_simp
        refine (right_any u1 18 (by omega) (by omega) _).mono ?_
        rintro e w5 ⟨rfl, hw5⟩
        rw [hw5]
        clear hw5 w5
        refine hK.out _ _ ?_ (fun hHeld => ?_)
        · (first | go_keep | ((try dsimp only); go_keep))
        clear hK K
        try simp only [Act.put, List.setIfInBounds_toArray, List.set_cons_zero, List.set_cons_succ]
        refine wpAnyH_takeD (i := 14) (d := 65) (v := .int .u32 (wn ((ror u1 7) ^^^ (ror u1 18)))) rfl (by kernel_rfl) (by kernel_rfl) (by kernel_rfl) (fun _ _ _ h => h) (Or.inl ⟨by rfl, by intro w hSw; (try dsimp only at hSw); go_simp⟩) (by assumption) rfl ?_
        simp only [Act.put, List.setIfInBounds_toArray, List.set_cons_zero, List.set_cons_succ]
        refine wpAnyH_takeD (i := 17) (d := 68) (v := .int .u32 (wn (((ror u1 7) ^^^ (ror u1 18)) ^^^ ((u1) >>> 3)))) rfl (by kernel_rfl) (by kernel_rfl) (by kernel_rfl) (fun _ _ _ h => h) (Or.inl ⟨by rfl, by intro w hSw; (try dsimp only at hSw); go_simp⟩) (by assumption) rfl ?_
        simp only [Act.put, List.setIfInBounds_toArray, List.set_cons_zero, List.set_cons_succ]
        refine wpAnyH_takeD (i := 18) (d := 69) (v := .int .u32 (wn ((u0 + u2) + (((ror u1 7) ^^^ (ror u1 18)) ^^^ ((u1) >>> 3))))) rfl (by kernel_rfl) (by kernel_rfl) (by kernel_rfl) (fun _ _ _ h => h) (Or.inl ⟨by rfl, by intro w hSw; (try dsimp only at hSw); go_simp⟩) (by assumption) rfl ?_
        simp only [Act.put, List.setIfInBounds_toArray, List.set_cons_zero, List.set_cons_succ]
        refine wpAnyH_ready (rs := [20]) (by kernel_rfl) (by simp) ?_
        refine AllReadyH.cons rfl (fun K hK => ?_) AllReadyH.nil
        go_simp
        refine (right_any u3 17 (by omega) (by omega) _).mono ?_
        rintro e w5 ⟨rfl, hw5⟩
        rw [hw5]
        clear hw5 w5
        refine hK.out _ _ ?_ (fun hHeld => ?_)
        · (first | go_keep | ((try dsimp only); go_keep))
        clear hK K
        try simp only [Act.put, List.setIfInBounds_toArray, List.set_cons_zero, List.set_cons_succ]
        refine wpAnyH_ready (rs := [22]) (by kernel_rfl) (by simp) ?_
        refine AllReadyH.cons rfl (fun K hK => ?_) AllReadyH.nil
        go_simp
        refine (right_any u3 19 (by omega) (by omega) _).mono ?_
        rintro e w5 ⟨rfl, hw5⟩
        rw [hw5]
        clear hw5 w5
        refine hK.out _ _ ?_ (fun hHeld => ?_)
        · (first | go_keep | ((try dsimp only); go_keep))
        clear hK K
        try simp only [Act.put, List.setIfInBounds_toArray, List.set_cons_zero, List.set_cons_succ]
        refine wpAnyH_takeD (i := 23) (d := 74) (v := .int .u32 (wn ((ror u3 17) ^^^ (ror u3 19)))) rfl (by kernel_rfl) (by kernel_rfl) (by kernel_rfl) (fun _ _ _ h => h) (Or.inl ⟨by rfl, by intro w hSw; (try dsimp only at hSw); go_simp⟩) (by assumption) rfl ?_
        simp only [Act.put, List.setIfInBounds_toArray, List.set_cons_zero, List.set_cons_succ]
        refine wpAnyH_takeD (i := 26) (d := 77) (v := .int .u32 (wn (((ror u3 17) ^^^ (ror u3 19)) ^^^ ((u3) >>> 10)))) rfl (by kernel_rfl) (by kernel_rfl) (by kernel_rfl) (fun _ _ _ h => h) (Or.inl ⟨by rfl, by intro w hSw; (try dsimp only at hSw); go_simp⟩) (by assumption) rfl ?_
        simp only [Act.put, List.setIfInBounds_toArray, List.set_cons_zero, List.set_cons_succ]
        refine wpAnyH_takeD (i := 27) (d := 78) (v := .int .u32 (wn (((u0 + u2) + (((ror u1 7) ^^^ (ror u1 18)) ^^^ ((u1) >>> 3))) + (((ror u3 17) ^^^ (ror u3 19)) ^^^ ((u3) >>> 10))))) rfl (by kernel_rfl) (by kernel_rfl) (by kernel_rfl) (fun _ _ _ h => h) (Or.inl ⟨by rfl, by intro w hSw; (try dsimp only at hSw); go_simp⟩) (by assumption) rfl ?_
        simp only [Act.put, List.setIfInBounds_toArray, List.set_cons_zero, List.set_cons_succ]
        refine wpAnyH_takeD (i := 28) (d := 79) (v := .pointer (some ⟨w.heap.size + 1 + 1, k, none⟩)) rfl (by kernel_rfl) (by kernel_rfl) (by kernel_rfl) (fun _ _ _ h => h) (Or.inl ⟨by rfl, by intro w hSw; (try dsimp only at hSw); go_simp⟩) (by assumption) rfl ?_
        simp only [Act.put, List.setIfInBounds_toArray, List.set_cons_zero, List.set_cons_succ]
        refine wpAnyH_ready (rs := [29]) (by kernel_rfl) (by simp) ?_
        refine AllReadyH.cons rfl (fun K hK => ?_) AllReadyH.nil
        go_simp
        refine hK.out _ _ ?_ (fun hHeld => ?_)
        · exact ⟨(cell_off431 _ _ _ g0).trans x0, (cell_off431 _ _ _ g2).trans x2⟩
        clear hK K
        try simp only [Act.put, List.setIfInBounds_toArray, List.set_cons_zero, List.set_cons_succ]
        refine wpAnyH_done (by kernel_rfl) ?_ _
        obtain ⟨w9, hw9⟩ : ∃ x, x = (World.setCell wr ⟨w.heap.size + 1 + 1, k, none⟩ (.int .u32 (wn (((u0 + u2) + (((ror u1 7) ^^^ (ror u1 18)) ^^^ ((u1) >>> 3))) + (((ror u3 17) ^^^ (ror u3 19)) ^^^ ((u3) >>> 10)))))) := ⟨_, rfl⟩
        have R9 : Hid (w9.rowIs (w.heap.size + 1 + 1) 105 64 (fun j => if j = k then .int .u32 (wn (((u0 + u2) + (((ror u1 7) ^^^ (ror u1 18)) ^^^ ((u1) >>> 3))) + (((ror u3 17) ^^^ (ror u3 19)) ^^^ ((u3) >>> 10)))) else f j)) := by show World.rowIs _ _ _ _ _; rw [hw9]; exact HROW.out.set k _
        have Y9 : Hid (BytesAt w9 w.heap.size 0 bs) := by rw [hw9]; exact bytes_set431 HBY.out (by omega)
        have Z9 : Hid (w9.heap[w.heap.size + 1]? = some (.cells zerC 105 (0, 0))) := by show _ = _; rw [hw9, Below.heap_setCell _ _ _ _ (by simp)]; exact HZ1.out
        have L9 : Hid (Below w.heap.size w w9) := by show Below _ _ _; rw [hw9]; exact HL.out.setCell (p := ⟨w.heap.size + 1 + 1, k, none⟩) (by show w.heap.size ≤ w.heap.size + 1 + 1; omega) _
        have F9 : Hid (∀ j, j < k + 1 → (if j = k then Value.int .u32 (wn (((u0 + u2) + (((ror u1 7) ^^^ (ror u1 18)) ^^^ ((u1) >>> 3))) + (((ror u3 17) ^^^ (ror u3 19)) ^^^ ((u3) >>> 10)))) else f j) = .int .u32 (wn (wAt (schedTo bs (k + 1)) j))) := fun j hj => by
          by_cases e : j = k
          · rw [if_pos e, e, HS.out]; exact congrArg (fun x => Value.int .u32 (wn x)) (wAt_last431 (schedTo_len bs k) _).symm
          · rw [if_neg e, HF.out j (by omega), schedTo_old bs (by omega)]
        go_wp2
        go_roundw
        case rel => exact ⟨k + 1, _, by omega, by go_num, by rw [hw9] at Y9; exact Y9.out, by rw [hw9] at Z9; exact Z9.out, by rw [hw9] at R9; exact R9.out, F9.out, by rw [hw9] at L9; exact ⟨L9.out.os, L9.out.tape, L9.out.output, L9.out.size, L9.out.block⟩⟩
        case measure => simp [intOf]; omega
    · have hke : k = 64 := by omega
      subst hke
      obtain ⟨c, hc, hcs, hcf⟩ := HROW.out
      have hce : c = schC (schedTo bs 64) := by
        apply Array.ext_getElem?
        intro i
        by_cases hi : i < 64
        · rw [hcf i hi, HF.out i hi]
          have hl : i < (schedTo bs 64).length := by rw [schedTo_len]; exact hi
          unfold schC wordCells wAt
          rw [List.getElem?_toArray, List.getElem?_map, List.getElem?_eq_getElem hl, List.getD_eq_getElem?_getD, List.getElem?_eq_getElem hl]
          rfl
        · rw [Array.getElem?_eq_none (by omega), Array.getElem?_eq_none (by simp [schC, wordCells, schedTo_len]; omega)]
      subst hce
      have hu := Tryd.underlying105
      have hs : (Tryd.prog.info? 105).map (·.size) = some 64 := by kernel_rfl
      have HC : Hid (wr.heap[w.heap.size + 1 + 1]? = some (.cells (schC (schedTo bs 64)) 105 (0, 0))) := hc
      have HS : Hid ((Tryd.prog.info? 105).map (·.size) = some (schC (schedTo bs 64)).size) := by show _ = _; rw [hs, hcs]
      have HU : Hid _ := hu
      have HZS : Hid (zerC.size = (schC (schedTo bs 64)).size) := by show _ = _; rw [hcs]; rfl
      have HONE : Hid ((schC (schedTo bs 64)).all (·.oneCell') = true) := by
        show _ = true
        rw [Array.all_eq_true_iff_forall_mem]
        intro x hx
        unfold schC wordCells at hx
        simp only [List.mem_toArray, List.mem_map] at hx
        obtain ⟨a, _, rfl⟩ := hx
        rfl
      obtain ⟨SC, hSC⟩ : ∃ x, schC (schedTo bs 64) = x := ⟨_, rfl⟩
      have HSE : Hid (schC (schedTo bs 64) = SC) := hSC
      rw [hSC] at HC HS HZS HONE
      clear hc hcs hcf hu hs hSC HROW HF
      go_wp2_with (first
        | (refine wpList_load_row rfl 105 _ rfl (w.heap.size + 1 + 1) rfl 105 SC (0, 0) _ HC.out HU.out rfl HS.out ?_)
        | (refine wpList_store_row rfl 105 _ _ rfl (w.heap.size + 1) SC rfl rfl 105 zerC HZ1.out HS.out HZS.out HONE.out ?_))
      refine bodyPost_ret (v := .agg SC) (results_cell_row Tryd.results64 _ _ (w.heap.size + 1) 105 SC (0, 0) _ rfl (setRow_heap _ _ _ _ _ _ HZ1.out) HU.out rfl HS.out) rfl ⟨by rw [HSE.out], ?_⟩
      exact below_setRow HL.out (by omega) _
end Go.Proofs.YtdjpeickokoclaaDoor
