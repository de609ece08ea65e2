/-
  A sum in memory; the numbers of the rounds as a package variable.
-/
import Derived.Test.YtdjpeickokoclaaDoorGW434
import Derived.Test.YtdjpeickokoclaaDoorW431
import Derived.Test.YtdjpeickokoclaaDoorGM30
import Derived.Deep.MidRow
import Derived.Lib.LaidTab
namespace Go.Proofs.YtdjpeickokoclaaDoor
open Go.RowKit
set_option linter.unusedVariables false
def byteC (l : List UInt8) : List Value := l.map fun b => .int .u8 (wn (bw b))
theorem byteC_len (l : List UInt8) : (byteC l).length = l.length := by simp [byteC]
theorem byteC_app (l m : List UInt8) : byteC (l ++ m) = byteC l ++ byteC m := by simp [byteC]
theorem wn_bw (b : UInt8) : wn (bw b) = (b.toNat : Int) := by
  have h : b.toNat < 256 := b.toNat_lt
  unfold wn bw
  rw [BitVec.toNat_ofNat, Nat.mod_eq_of_lt (Nat.lt_trans h (by decide))]
theorem byteC_at {l : List UInt8} {i : Nat} (h : i < l.length) : (byteC l)[i]? = some (.int .u8 (wn (bw (bAt l i)))) := by
  unfold byteC bAt
  rw [List.getElem?_map, List.getElem?_eq_getElem h, List.getD_eq_getElem?_getD, List.getElem?_eq_getElem h]
  rfl
theorem wordCells_at {l : List Wd} {i : Nat} (h : i < l.length) : (wordCells l)[i]? = some (.int .u32 (wn (wAt l i))) := by
  unfold wordCells wAt
  rw [List.getElem?_map, List.getElem?_eq_getElem h, List.getD_eq_getElem?_getD, List.getElem?_eq_getElem h]
  rfl
/-- The cells of a sum: its words, its block, how much of that is filled, how many bytes there were. -/
def sumC (L : List Wd) (bl : List UInt8) (n z : Int) : List Value := wordCells L ++ (byteC bl ++ [.int .i64 n, .int .u64 z])
/-- What a sum begins with, as the program's text lays it. -/
def iv0 : Wds := ⟨1779033703#32, 3144134277#32, 1013904242#32, 2773480762#32, 1359893119#32, 2600822924#32, 528734635#32, 1541459225#32⟩
structure SumAt (w : World) (b : Nat) (L : List Wd) (bl : List UInt8) (n z : Int) : Prop where
  words : L.length = 8
  bytes : bl.length = 64
  heap : w.heap[b]? = some (.cells (sumC L bl n z).toArray 77 (0, 0))
namespace SumAt
variable {w w' : World} {b : Nat} {L : List Wd} {bl : List UInt8} {n z : Int}
theorem lt (h : SumAt w b L bl n z) : b < w.heap.size := (Array.getElem?_eq_some_iff.1 h.heap).1
theorem cell (h : SumAt w b L bl n z) (i : Nat) : w.cell? ⟨b, i, none⟩ = (sumC L bl n z)[i]? := by
  rw [cell_of_row w b i _ _ _ h.heap, List.getElem?_toArray]
theorem cellW (h : SumAt w b L bl n z) {i : Nat} (hi : i < 8) : w.cell? ⟨b, i, none⟩ = some (.int .u32 (wn (wAt L i))) := by
  rw [h.cell i]
  unfold sumC
  rw [List.getElem?_append_left (by rw [wordCells_len, h.words]; exact hi), wordCells_at (by rw [h.words]; exact hi)]
theorem cellB (h : SumAt w b L bl n z) {i : Nat} (hi : i < 64) : w.cell? ⟨b, 8 + i, none⟩ = some (.int .u8 (wn (bw (bAt bl i)))) := by
  rw [h.cell]
  unfold sumC
  rw [List.getElem?_append_right (by rw [wordCells_len, h.words]; omega), wordCells_len, h.words, show 8 + i - 8 = i by omega, List.getElem?_append_left (by rw [byteC_len, h.bytes]; exact hi), byteC_at (by rw [h.bytes]; exact hi)]
theorem cellN (h : SumAt w b L bl n z) : w.cell? ⟨b, 72, none⟩ = some (.int .i64 n) := by
  rw [h.cell]
  unfold sumC
  rw [List.getElem?_append_right (by rw [wordCells_len, h.words]; omega), wordCells_len, h.words, List.getElem?_append_right (by rw [byteC_len, h.bytes]; omega), byteC_len, h.bytes]
  rfl
theorem cellZ (h : SumAt w b L bl n z) : w.cell? ⟨b, 73, none⟩ = some (.int .u64 z) := by
  rw [h.cell]
  unfold sumC
  rw [List.getElem?_append_right (by rw [wordCells_len, h.words]; omega), wordCells_len, h.words, List.getElem?_append_right (by rw [byteC_len, h.bytes]; omega), byteC_len, h.bytes]
  rfl
theorem frozen (h : SumAt w b L bl n z) (i : Nat) : w.frozen? ⟨b, i, none⟩ = false := frozen_of_row w b i _ _ h.heap
theorem rangeW (h : SumAt w b L bl n z) : w.rangeAt b 0 (wordCells L) := by
  intro j v hv
  have hj : j < L.length := by have := (List.getElem?_eq_some_iff.1 hv).1; rwa [wordCells_len] at this
  rw [Nat.zero_add, h.cellW (by rw [← h.words]; exact hj), ← wordCells_at hj]
  exact hv
theorem rangeB (h : SumAt w b L bl n z) : w.rangeAt b 8 (byteC bl) := by
  intro j v hv
  have hj : j < bl.length := by have := (List.getElem?_eq_some_iff.1 hv).1; rwa [byteC_len] at this
  rw [h.cellB (by rw [← h.bytes]; exact hj), ← byteC_at hj]
  exact hv
theorem kept (h : SumAt w b L bl n z) (hb : w'.heap[b]? = w.heap[b]?) : SumAt w' b L bl n z := ⟨h.words, h.bytes, hb.trans h.heap⟩
theorem below (h : SumAt w b L bl n z) (hb : Below w.heap.size w w') : SumAt w' b L bl n z := h.kept (hb.block b h.lt)
theorem set_word (L : List Wd) (R : List Value) {i : Nat} (hi : i < L.length) (x : Wd) : (wordCells L ++ R).set i (.int .u32 (wn x)) = wordCells (L.set i x) ++ R := by
  rw [List.set_append_left _ _ (by rw [wordCells_len]; exact hi)]
  congr 1
  unfold wordCells
  rw [List.map_set]
theorem setW (h : SumAt w b L bl n z) {i : Nat} (hi : i < 8) (x : Wd) : SumAt (w.setCell ⟨b, i, none⟩ (.int .u32 (wn x))) b (L.set i x) bl n z := by
  refine ⟨by rw [List.length_set]; exact h.words, h.bytes, ?_⟩
  rw [heap_setCell_same w b i _ _ _ h.heap, List.setIfInBounds_toArray]
  unfold sumC
  rw [set_word _ _ (by rw [h.words]; exact hi)]
theorem setN (h : SumAt w b L bl n z) (m : Int) : SumAt (w.setCell ⟨b, 72, none⟩ (.int .i64 m)) b L bl m z := by
  refine ⟨h.words, h.bytes, ?_⟩
  rw [heap_setCell_same w b 72 _ _ _ h.heap, List.setIfInBounds_toArray]
  unfold sumC
  rw [List.set_append_right _ _ (by rw [wordCells_len, h.words]; omega), wordCells_len, h.words, List.set_append_right _ _ (by rw [byteC_len, h.bytes]; omega), byteC_len, h.bytes]
  rfl
theorem setZ (h : SumAt w b L bl n z) (m : Int) : SumAt (w.setCell ⟨b, 73, none⟩ (.int .u64 m)) b L bl n m := by
  refine ⟨h.words, h.bytes, ?_⟩
  rw [heap_setCell_same w b 73 _ _ _ h.heap, List.setIfInBounds_toArray]
  unfold sumC
  rw [List.set_append_right _ _ (by rw [wordCells_len, h.words]; omega), wordCells_len, h.words, List.set_append_right _ _ (by rw [byteC_len, h.bytes]; omega), byteC_len, h.bytes]
  rfl
end SumAt
/-- The package variable as the program's text lays it. -/
def roundTab (w : World) : Prop := w.var? Tryd.prog "loop.example/medlar/impl.roundWords" = some kC
theorem roundTab.cell {w : World} (h : roundTab w) {i : Nat} (hi : i < 64) : w.cell? ⟨1, i, none⟩ = some (.int .u32 (wn (kAt i))) := by
  have hg : Tryd.prog.globalNamed "loop.example/medlar/impl.roundWords" = some 1 := by kernel_rfl
  have hv := h
  unfold roundTab at hv
  have := World.var?_cell hg hv i
  rw [this]
  exact kC_at hi
theorem roundTab.below {w w' : World} (h : roundTab w) (hb : Below w.heap.size w w') : roundTab w' := by
  have hg : Tryd.prog.globalNamed "loop.example/medlar/impl.roundWords" = some 1 := by kernel_rfl
  unfold roundTab World.var? at h ⊢
  simp only [hg, Option.bind_some] at h ⊢
  have hlt : 1 < w.heap.size := by
    rcases Nat.lt_or_ge 1 w.heap.size with h' | h'
    · exact h'
    · simp [Array.getElem?_eq_none h'] at h
  rw [hb.block _ hlt]; exact h
/-- .. behind what stands at a block behind it. -/
theorem roundTab.from {w w' : World} {B : Nat} (h : roundTab w) (hB : 1 < B) (hb : Below B w w') : roundTab w' := by
  have hg : Tryd.prog.globalNamed "loop.example/medlar/impl.roundWords" = some 1 := by kernel_rfl
  unfold roundTab World.var? at h ⊢
  simp only [hg, Option.bind_some] at h ⊢
  rw [hb.block _ hB]; exact h
theorem roundTab.lt {w : World} (h : roundTab w) : 1 < w.heap.size := by
  have hg : Tryd.prog.globalNamed "loop.example/medlar/impl.roundWords" = some 1 := by kernel_rfl
  unfold roundTab World.var? at h
  simp only [hg, Option.bind_some] at h
  rcases Nat.lt_or_ge 1 w.heap.size with h' | h'
  · exact h'
  · simp [Array.getElem?_eq_none h'] at h
def firstTab (w : World) : Prop := w.var? Tryd.prog "loop.example/medlar/impl.firstWords" = some iv0.vals
theorem firstTab.below {w w' : World} (h : firstTab w) (hb : Below w.heap.size w w') : firstTab w' := by
  have hg : Tryd.prog.globalNamed "loop.example/medlar/impl.firstWords" = some 0 := by kernel_rfl
  unfold firstTab World.var? at h ⊢
  simp only [hg, Option.bind_some] at h ⊢
  have hlt : 0 < w.heap.size := by
    rcases Nat.lt_or_ge 0 w.heap.size with h' | h'
    · exact h'
    · simp [Array.getElem?_eq_none h'] at h
  rw [hb.block _ hlt]; exact h
theorem firstTab.cell {w : World} (h : firstTab w) {i : Nat} (hi : i < 8) : w.cell? ⟨0, i, none⟩ = some (.int .u32 (wn (wAt (bytesOf iv0) i))) := by
  have hg : Tryd.prog.globalNamed "loop.example/medlar/impl.firstWords" = some 0 := by kernel_rfl
  have hv := h
  unfold firstTab at hv
  have := World.var?_cell hg hv i
  rw [this, ← wordCells_at (l := bytesOf iv0) hi, ← Array.getElem?_toList]
  rfl
end Go.Proofs.YtdjpeickokoclaaDoor
/-
  A block mixed into a sum: (*impl.sumState).mix.
-/
namespace Go.Proofs.YtdjpeickokoclaaDoor
open Go.RowKit
set_option linter.unusedVariables false
theorem step_load_row {P : Program} {ops : Array Oper} {o : Oper} {a : Act} {w : World} {K : Act → World → Prop} {Q : Exit → Act → World → Prop} {E : Prop} (hgd : o.guard = none) (ty : TypeId) (x : Operand) (ho : o.op = .load ty x)
    (g : Nat) (hx : a.eval x = .pointer (some ⟨g, 0, none⟩)) (t : TypeId) (cs : Array Value) (fr : Nat × Nat) (d : TypeDesc) (hg : w.heap[g]? = some (.cells cs t fr))
    (hu : P.underlying ty = some d) (hd : (match d with | .struct _ | .array _ _ => true | _ => false) = true) (hi : (P.info? ty).map (·.size) = some cs.size) {n : Nat} (hn : o.dst = some n)
    (h : K (a.put (some n) (.agg cs)) w) : if Region.wanted o (yielded ops a.tmps) = true then Oper.wp P o a w K Q else E := by
  have hw : Region.wanted o (yielded ops a.tmps) = true := by simp [Region.wanted, hgd]
  rw [if_pos hw]
  exact wp_load_row ty x ho g hx t cs fr d hg hu hd hi (by rw [hn]; exact h)
theorem step_store_row {P : Program} {ops : Array Oper} {o : Oper} {a : Act} {w : World} {K : Act → World → Prop} {Q : Exit → Act → World → Prop} {E : Prop} (hgd : o.guard = none) (ty : TypeId) (x y : Operand) (ho : o.op = .store ty x y)
    (g : Nat) (cells : Array Value) (hx : a.eval x = .pointer (some ⟨g, 0, none⟩)) (hy : a.eval y = .agg cells)
    (t : TypeId) (old : Array Value) (hg : w.heap[g]? = some (.cells old t (0, 0))) (hi : (P.info? ty).map (·.size) = some cells.size)
    (hold : old.size = cells.size) (h1 : cells.all (·.oneCell') = true) (hn : o.dst = none)
    (h : K a (w.setRow g cells)) : if Region.wanted o (yielded ops a.tmps) = true then Oper.wp P o a w K Q else E := by
  have hw : Region.wanted o (yielded ops a.tmps) = true := by simp [Region.wanted, hgd]
  rw [if_pos hw]
  exact wp_store_row ty x y ho g cells hx hy t old hg hi hold h1 (by rw [hn]; exact h)
theorem vals_one (v : Wds) : v.vals.all (·.oneCell') = true := by simp [Wds.vals, Value.oneCell']
theorem vals_cells (v : Wds) : (wordCells (bytesOf v)).toArray = v.vals := rfl
theorem vals_at (v : Wds) {i : Nat} (h : i < 8) : v.vals[i]? = some (.int .u32 (wn (wAt (bytesOf v) i))) := by
  rw [← vals_cells, List.getElem?_toArray]
  exact wordCells_at h
theorem schC_at {l : List Wd} {i : Nat} (h : i < l.length) : (schC l)[i]? = some (.int .u32 (wn (wAt l i))) := by
  unfold schC
  rw [List.getElem?_toArray]
  exact wordCells_at h
theorem vals_at' {w : World} {g q : Nat} {t : TypeId} {cs : Array Value} {fr : Nat × Nat} {x : Value} (h : w.cell? ⟨g, q, none⟩ = some x) (hg : w.heap[g]? = some (.cells cs t fr)) : cs[q]? = some x := by
  rw [← cell_of_row w g q cs t fr hg]
  exact h
def mixP (v V : Wds) (k : Nat) : List Wd := (bytesOf (addW v V)).take k ++ (bytesOf v).drop k
theorem mixP_all (v V : Wds) : mixP v V 8 = bytesOf (addW v V) := rfl
theorem mixP_next (v V : Wds) {k : Nat} (h : k < 8) : (mixP v V k).set k (wAt (mixP v V k) k + wAt (bytesOf V) k) = mixP v V (k + 1) := by
  match k, h with
  | 0, _ => rfl
  | 1, _ => rfl
  | 2, _ => rfl
  | 3, _ => rfl
  | 4, _ => rfl
  | 5, _ => rfl
  | 6, _ => rfl
  | 7, _ => rfl
theorem run_index_words (t : TypeId) (n : Nat) (ht : Tryd.prog.underlying t = some (.array n 70)) (w : World) (cs : Array Value) (k : Nat) (hk : k < n) (v : Value) (hc : cs[k]? = some v) :
    (Instr.index t (.agg cs) (.int .i64 (k : Int))).run Tryd.prog w = .ok v w := by
  obtain ⟨i, hi, hz, hs, hb⟩ := info_parts Tryd.info_u32
  have h1 : (0 : Int) ≤ (k : Int) ∧ (k : Int) < (n : Int) := by omega
  unfold Instr.index part isAgg sizeOf typeInfo
  simp [Sem.run_bind, run_underlying ht, run_underlying Tryd.underlying70, asIntOf, hi, hs, hc, hk, go_sem]
theorem Tryd.size_eight : (Tryd.prog.info? 71).map (·.size) = some 8 := by kernel_rfl
theorem Tryd.size_block : (Tryd.prog.info? 74).map (·.size) = some 64 := by kernel_rfl
set_option maxRecDepth 100000 in
set_option maxHeartbeats 8000000 in
theorem mix_any (w : World) (b : Nat) (v : Wds) (bl bs : List UInt8) (n z : Int) (h : SumAt w b (bytesOf v) bl n z) (hR : roundTab w) (hb : bs.length = 64) :
    Calls Tryd.prog 55 #[.pointer (some ⟨b, 0, none⟩), .agg (blkC bs)] w fun e w' => e = .returned (.tuple #[]) ∧ SumAt w' b (bytesOf (mixT kAt v bs)) bl n z ∧ Below b w w' := by
  have hcells : (Value.agg (blkC bs)).cells = blkC bs := rfl
  have HS8 : Hid ((Tryd.prog.info? 71).map (·.size) = some 8) := Tryd.size_eight
  have HS64 : Hid ((Tryd.prog.info? 74).map (·.size) = some (blkC bs).size) := by show _ = _; rw [Tryd.size_block]; unfold blkC; simp [hb]
  have HU8 : Hid (Tryd.prog.underlying 71 = _) := Tryd.underlying71
  have HU64 : Hid (Tryd.prog.underlying 74 = _) := Tryd.underlying74
  have hbw : b < w.heap.size := h.lt
  have hzb : 1 < w.heap.size := hR.lt
  have HH : Hid (SumAt w b (bytesOf v) bl n z) := h
  have HR : Hid (roundTab w) := hR
  have hr7 := wn_add
  clear h hR
  have HB1 : Hid (Below w.heap.size w (w.alloc (.cells (blkC bs) 74))) := (Below.refl _ _).alloc (Nat.le_refl _) _
  have R1 : Hid ((w.alloc (.cells (blkC bs) 74)).rangeAt b 0 (wordCells (bytesOf v))) := (HH.out.below HB1.out).rangeW
  have N2 : Hid (((w.alloc (.cells (blkC bs) 74)).alloc (.cells #[.int .u32 0, .int .u32 0, .int .u32 0, .int .u32 0, .int .u32 0, .int .u32 0, .int .u32 0, .int .u32 0] 71)).heap[w.heap.size + 1]? = some (.cells #[.int .u32 0, .int .u32 0, .int .u32 0, .int .u32 0, .int .u32 0, .int .u32 0, .int .u32 0, .int .u32 0] 71 (0, 0))) := heap_alloc2_new w _ _
  have N1 : Hid (((w.alloc (.cells (blkC bs) 74)).alloc (.cells #[.int .u32 0, .int .u32 0, .int .u32 0, .int .u32 0, .int .u32 0, .int .u32 0, .int .u32 0, .int .u32 0] 71)).heap[w.heap.size]? = some (.cells (blkC bs) 74 (0, 0))) := heap_alloc2_old w _ _
  obtain ⟨wv, hwv⟩ : ∃ x, v.vals = x := ⟨_, rfl⟩
  have HWV : Hid (v.vals = wv) := hwv
  have R1' : Hid ((w.alloc (.cells (blkC bs) 74)).rangeAt b 0 wv.toList) := by rw [← hwv]; exact R1.out
  have HSV : Hid ((Tryd.prog.info? 71).map (·.size) = some wv.toList.length) := by rw [← hwv]; exact HS8.out
  have HSV2 : Hid ((Tryd.prog.info? 71).map (·.size) = some wv.size) := by rw [← hwv]; exact HS8.out
  have HSZ : Hid ((#[.int .u32 0, .int .u32 0, .int .u32 0, .int .u32 0, .int .u32 0, .int .u32 0, .int .u32 0, .int .u32 0] : Array Value).size = wv.size) := by rw [← hwv]; rfl
  have HONE : Hid (wv.all (·.oneCell') = true) := by rw [← hwv]; exact vals_one v
  have HZW : Hid (wv.size = 8) := by rw [← hwv]; rfl
  clear hwv
  obtain ⟨w2, hw2⟩ : ∃ x, ((w.alloc (.cells (blkC bs) 74)).alloc (.cells #[.int .u32 0, .int .u32 0, .int .u32 0, .int .u32 0, .int .u32 0, .int .u32 0, .int .u32 0, .int .u32 0] 71)).setRow (w.heap.size + 1) wv = x := ⟨_, rfl⟩
  have A2 : Hid (w2.heap[w.heap.size + 1]? = some (.cells wv 71 (0, 0))) := by show _ = _; rw [← hw2]; exact setRow_heap _ _ _ _ _ _ N2.out
  have B2 : Hid (w2.heap[w.heap.size]? = some (.cells (blkC bs) 74 (0, 0))) := by show _ = _; rw [← hw2, setRow_other _ _ _ _ (by omega)]; exact N1.out
  have L2 : Hid (Below w.heap.size w w2) := by show Below _ _ _; rw [← hw2]; exact below_setRow (HB1.out.alloc (by simp <;> omega) _) (by omega) _
  clear R1
  go_enter Tryd.func55, Tryd.ntmps55
  go_wp2_with (first
    | (refine wpList_load_mid rfl 71 _ rfl b 0 rfl wv.toList _ R1'.out HU8.out rfl HSV.out ?_; rw [Array.toArray_toList])
    | (refine wpList_store_row rfl 71 _ _ rfl (w.heap.size + 1) wv rfl rfl 71 _ N2.out HSV2.out HSZ.out HONE.out ?_; rw [hw2])
    | (refine wpList_load_row rfl 74 _ rfl w.heap.size rfl 74 (blkC bs) (0, 0) _ B2.out HU64.out rfl HS64.out ?_)
    | (go_at_call 64; refine (spread_any _ bs hb).mono ?_))
  rintro e w3 ⟨rfl, hb3⟩
  have L3 : Hid (Below w.heap.size w w3) := L2.out.trans (hb3.mono L2.out.size)
  have hz2 : w.heap.size + 1 < w2.heap.size := (Array.getElem?_eq_some_iff.1 A2.out).1
  have A3 : Hid (w3.heap[w.heap.size + 1]? = some (.cells wv 71 (0, 0))) := (hb3.block _ hz2).trans A2.out
  obtain ⟨SC, hSC⟩ : ∃ x, schC (schedTo bs 64) = x := ⟨_, rfl⟩
  have HSC : Hid (∀ k, k < 64 → SC[k]? = some (.int .u32 (wn (wAt (schedTo bs 64) k)))) := fun k hk => by rw [← hSC]; exact schC_at (by rw [schedTo_len]; exact hk)
  have hscz : SC.size = 64 := by rw [← hSC]; unfold schC; simp [wordCells_len, schedTo_len]
  rw [hSC]
  clear hb3 hSC A2 B2 L2 N1 N2 hw2 hz2 R1' HSV HSV2 HSZ HONE
  go_wp2_with fail
  go_loopw [14] (fun i wr => ∃ (k : Nat), k ≤ 64 ∧ i = .int .i64 k ∧ wr.heap[w.heap.size + 1]? = some (.cells (roundsT kAt bs v k).vals 71 (0, 0)) ∧ Below w.heap.size w wr) (fun i _ => 64 - (intOf i).toNat)
  case atStart => exact ⟨0, Nat.zero_le _, rfl, by rw [A3.out, ← HWV.out]; rfl, L3.out⟩
  case round =>
    clear A3 L3
    obtain ⟨k, hk, rfl, ha, hl⟩ := hrel
    have A : Hid (wr.heap[w.heap.size + 1]? = some (.cells (roundsT kAt bs v k).vals 71 (0, 0))) := ha
    have L : Hid (Below w.heap.size w wr) := hl
    clear ha hl
    by_cases hlt : k < 64
    · have hlt' : (k : Int) < 64 := by omega
      obtain ⟨V, hV⟩ : ∃ V, roundsT kAt bs v k = V := ⟨_, rfl⟩
      obtain ⟨kk, hkk⟩ : ∃ x, kAt k = x := ⟨_, rfl⟩
      obtain ⟨ww, hww⟩ : ∃ x, wAt (schedTo bs 64) k = x := ⟨_, rfl⟩
      have HN : Hid (roundsT kAt bs v (k + 1) = stirT V (kk + ww)) := by show _ = _; rw [roundsT, hV, hkk, hww]
      have hsc : SC[k]? = some (.int .u32 (wn ww)) := by rw [← hww]; exact HSC.out k hlt
      have x1 : wr.cell? ⟨1, k, none⟩ = some (.int .u32 (wn kk)) := by rw [← hkk]; exact (HR.out.from hzb L.out).cell hlt
      rw [hV] at A
      have hix := fun w' => run_index_words 105 64 Tryd.underlying105 w' SC k hlt _ hsc
      have HV8 : Hid ((Tryd.prog.info? 71).map (·.size) = some V.vals.size) := HS8.out
      clear hV hkk hww
      go_wp2_with fail
      refine wp_region_held_drew (S := (fun w' => w'.cell? ⟨1, k, none⟩ = some (.int .u32 (wn kk)))) (by kernel_rfl) ?_ (fun hHeld => ?_)
      · exact x1
      refine wpAnyH_takeD (i := 1) (d := 19) (v := .int .i64 (k : Int)) rfl (by kernel_rfl) (by kernel_rfl) (by kernel_rfl) (fun _ _ _ h => h) (Or.inl ⟨by rfl, by intro w hSw; (try dsimp only at hSw); go_simp⟩) (by assumption) rfl ?_
      simp only [Act.put, List.setIfInBounds_toArray, List.set_cons_zero, List.set_cons_succ]
      refine wpAnyH_takeD (i := 2) (d := 20) (v := .pointer (some ⟨1, k, none⟩)) rfl (by kernel_rfl) (by kernel_rfl) (by kernel_rfl) (fun _ _ _ h => h) (Or.inl ⟨by rfl, by intro w hSw; (try dsimp only at hSw); go_simp⟩) (by assumption) rfl ?_
      simp only [Act.put, List.setIfInBounds_toArray, List.set_cons_zero, List.set_cons_succ]
      refine wpAnyH_takeD (i := 3) (d := 21) (v := .int .u32 (wn kk)) rfl (by kernel_rfl) (by kernel_rfl) (by kernel_rfl) (fun _ _ _ h => h) (Or.inl ⟨by rfl, by intro w hSw; (try dsimp only at hSw); go_simp⟩) (by assumption) rfl ?_
      simp only [Act.put, List.setIfInBounds_toArray, List.set_cons_zero, List.set_cons_succ]
      refine wpAnyH_takeD (i := 4) (d := 22) (v := .int .u32 (wn ww)) rfl (by kernel_rfl) (by kernel_rfl) (by kernel_rfl) (fun _ _ _ h => h) (Or.inl ⟨by rfl, by intro w hSw; (try dsimp only at hSw); go_simp⟩) (by assumption) rfl ?_
      simp only [Act.put, List.setIfInBounds_toArray, List.set_cons_zero, List.set_cons_succ]
      refine wpAnyH_takeD (i := 5) (d := 23) (v := .int .u32 (wn (kk + ww))) rfl (by kernel_rfl) (by kernel_rfl) (by kernel_rfl) (fun _ _ _ h => h) (Or.inl ⟨by rfl, by intro w hSw; (try dsimp only at hSw); go_simp⟩) (by assumption) rfl ?_
      simp only [Act.put, List.setIfInBounds_toArray, List.set_cons_zero, List.set_cons_succ]
      refine wpAnyH_ready (rs := [0]) (by kernel_rfl) (by simp) ?_
      refine AllReadyH.cons rfl (fun K hK => ?_) AllReadyH.nil
      refine step_load_row rfl 71 (.tmp 4) rfl (w.heap.size + 1) rfl 71 V.vals (0, 0) _ A.out HU8.out rfl HV8.out (n := 18) rfl ?_
      refine hK.out _ _ ?_ (fun hHeld => ?_)
      · exact x1
      clear hK K
      simp only [Act.put, List.setIfInBounds_toArray, List.set_cons_zero, List.set_cons_succ]
      refine wpAnyH_ready (rs := [6]) (by kernel_rfl) (by simp) ?_
      refine AllReadyH.cons rfl (fun K hK => ?_) AllReadyH.nil
      go_simp
      refine (stirred_any V (kk + ww) _).mono ?_
      rintro e w5 ⟨rfl, hb5⟩
      have hzr : w.heap.size + 1 < (World.drew wr).heap.size := (Array.getElem?_eq_some_iff.1 A.out).1
      have A5 : Hid (w5.heap[w.heap.size + 1]? = some (.cells V.vals 71 (0, 0))) := (hb5.block _ hzr).trans A.out
      have L5 : Hid (Below w.heap.size w w5) := (L.out.drew).trans (hb5.mono L.out.size)
      have x5 : w5.cell? ⟨1, k, none⟩ = some (.int .u32 (wn kk)) := (World.cell?_of_block (hb5.block 1 (Nat.lt_of_lt_of_le hzb L.out.size))).trans x1
      clear hb5
      refine hK.out _ _ ?_ (fun hHeld => ?_)
      · exact x5
      clear hK K
      try simp only [Act.put, List.setIfInBounds_toArray, List.set_cons_zero, List.set_cons_succ]
      refine wpAnyH_ready (rs := [7]) (by kernel_rfl) (by simp) ?_
      refine AllReadyH.cons rfl (fun K hK => ?_) AllReadyH.nil
      refine step_store_row rfl 71 (.tmp 4) (.tmp 24) rfl (w.heap.size + 1) (stirT V (kk + ww)).vals rfl rfl 71 V.vals A5.out HV8.out rfl (vals_one _) rfl ?_
      obtain ⟨w6, hw6⟩ : ∃ x, w5.setRow (w.heap.size + 1) (stirT V (kk + ww)).vals = x := ⟨_, rfl⟩
      have A6 : Hid (w6.heap[w.heap.size + 1]? = some (.cells (stirT V (kk + ww)).vals 71 (0, 0))) := by show _ = _; rw [← hw6]; exact setRow_heap _ _ _ _ _ _ A5.out
      have L6 : Hid (Below w.heap.size w w6) := by show Below _ _ _; rw [← hw6]; exact below_setRow L5.out (by omega) _
      have x6 : w6.cell? ⟨1, k, none⟩ = some (.int .u32 (wn kk)) := by rw [← hw6, World.cell?_of_block (setRow_other w5 (w.heap.size + 1) 1 _ (by omega))]; exact x5
      rw [hw6]
      clear hw6
      refine hK.out _ _ ?_ (fun hHeld => ?_)
      · exact x6
      clear hK K
      refine wpAnyH_done (by kernel_rfl) ?_ _
      go_wp2
      go_roundw
      case rel => exact ⟨k + 1, by omega, by go_num, by rw [HN.out]; exact A6.out, L6.out⟩
      case measure => simp [intOf]; omega
    · have hkn : ¬ ((k : Int) < 64) := by omega
      have hke : k = 64 := by omega
      obtain ⟨V, hV⟩ : ∃ V, roundsT kAt bs v 64 = V := ⟨_, rfl⟩
      rw [hke, hV] at A
      have HM : Hid (mixT kAt v bs = addW v V) := by show _ = _; unfold mixT; rw [hV]
      clear hke hV
      obtain ⟨wq, hwq⟩ : ∃ x, x = wr := ⟨_, rfl⟩
      subst hwq
      have HS0 : Hid (SumAt wq b (bytesOf v) bl n z) := HH.out.below L.out
      have L0 : Hid (Below b w wq) := L.out.mono (Nat.le_of_lt hbw)
      go_wp2_with fail
      go_loopw [26] (fun i wr => ∃ (q : Nat), q ≤ 8 ∧ i = .int .i64 q ∧ SumAt wr b (mixP v V q) bl n z ∧ wr.heap[w.heap.size + 1]? = some (.cells V.vals 71 (0, 0)) ∧ Below b w wr) (fun i _ => 8 - (intOf i).toNat)
      case atStart => exact ⟨0, Nat.zero_le _, rfl, HS0.out, A.out, L0.out⟩
      case round =>
        clear HS0 A L0
        obtain ⟨q, hq, rfl, hs1, ha1, hl1⟩ := hrel
        have HS1 : Hid (SumAt wr b (mixP v V q) bl n z) := hs1
        have A1 : Hid (wr.heap[w.heap.size + 1]? = some (.cells V.vals 71 (0, 0))) := ha1
        have L1 : Hid (Below b w wr) := hl1
        clear hs1 ha1 hl1
        by_cases hq8 : q < 8
        · have hq8' : (q : Int) < 8 := by omega
          obtain ⟨x, hx⟩ : ∃ x, wAt (mixP v V q) q = x := ⟨_, rfl⟩
          obtain ⟨y, hy⟩ : ∃ y, wAt (bytesOf V) q = y := ⟨_, rfl⟩
          have HNX : Hid ((mixP v V q).set q (x + y) = mixP v V (q + 1)) := by show _ = _; rw [← hx, ← hy]; exact mixP_next v V hq8
          have cx : wr.cell? ⟨b, q, none⟩ = some (.int .u32 (wn x)) := by rw [← hx]; exact HS1.out.cellW hq8
          have cfx : wr.frozen? ⟨b, q, none⟩ = false := HS1.out.frozen q
          have cy : wr.cell? ⟨w.heap.size + 1, q, none⟩ = some (.int .u32 (wn y)) := by rw [← hy, cell_of_row wr _ q _ _ _ A1.out]; exact vals_at V hq8
          clear hx hy
          go_wp2_with fail
          refine wp_region_held_drew (S := (fun w' => w'.cell? ⟨w.heap.size + 1, q, none⟩ = some (.int .u32 (wn y)))) (by kernel_rfl) ?_ (fun hHeld => ?_)
          · exact cy
          refine wpAnyH_takeD (i := 0) (d := 29) (v := .pointer (some ⟨b, 0, none⟩)) rfl (by kernel_rfl) (by kernel_rfl) (by kernel_rfl) (fun _ _ _ h => h) (Or.inl ⟨by rfl, by intro w hSw; (try dsimp only at hSw); go_simp⟩) (by assumption) rfl ?_
          simp only [Act.put, List.setIfInBounds_toArray, List.set_cons_zero, List.set_cons_succ]
          refine wpAnyH_takeD (i := 1) (d := 30) (v := .int .i64 (q : Int)) rfl (by kernel_rfl) (by kernel_rfl) (by kernel_rfl) (fun _ _ _ h => h) (Or.inl ⟨by rfl, by intro w hSw; (try dsimp only at hSw); go_simp⟩) (by assumption) rfl ?_
          simp only [Act.put, List.setIfInBounds_toArray, List.set_cons_zero, List.set_cons_succ]
          refine wpAnyH_takeD (i := 2) (d := 31) (v := .pointer (some ⟨b, 0, none⟩)) rfl (by kernel_rfl) (by kernel_rfl) (by kernel_rfl) (fun _ _ _ h => h) (Or.inl ⟨by rfl, by intro w hSw; (try dsimp only at hSw); go_simp⟩) (by assumption) rfl ?_
          simp only [Act.put, List.setIfInBounds_toArray, List.set_cons_zero, List.set_cons_succ]
          refine wpAnyH_takeD (i := 3) (d := 32) (v := .pointer (some ⟨b, 0, none⟩)) rfl (by kernel_rfl) (by kernel_rfl) (by kernel_rfl) (fun _ _ _ h => h) (Or.inl ⟨by rfl, by intro w hSw; (try dsimp only at hSw); go_simp⟩) (by assumption) rfl ?_
          simp only [Act.put, List.setIfInBounds_toArray, List.set_cons_zero, List.set_cons_succ]
          refine wpAnyH_takeD (i := 4) (d := 33) (v := .pointer (some ⟨b, q, none⟩)) rfl (by kernel_rfl) (by kernel_rfl) (by kernel_rfl) (fun _ _ _ h => h) (Or.inl ⟨by rfl, by intro w hSw; (try dsimp only at hSw); go_simp⟩) (by assumption) rfl ?_
          simp only [Act.put, List.setIfInBounds_toArray, List.set_cons_zero, List.set_cons_succ]
          refine wpAnyH_takeD (i := 6) (d := 35) (v := .int .i64 (q : Int)) rfl (by kernel_rfl) (by kernel_rfl) (by kernel_rfl) (fun _ _ _ h => h) (Or.inl ⟨by rfl, by intro w hSw; (try dsimp only at hSw); go_simp⟩) (by assumption) rfl ?_
          simp only [Act.put, List.setIfInBounds_toArray, List.set_cons_zero, List.set_cons_succ]
          refine wpAnyH_takeD (i := 7) (d := 36) (v := .pointer (some ⟨w.heap.size + 1, q, none⟩)) rfl (by kernel_rfl) (by kernel_rfl) (by kernel_rfl) (fun _ _ _ h => h) (Or.inl ⟨by rfl, by intro w hSw; (try dsimp only at hSw); go_simp⟩) (by assumption) rfl ?_
          simp only [Act.put, List.setIfInBounds_toArray, List.set_cons_zero, List.set_cons_succ]
          refine wpAnyH_takeD (i := 8) (d := 37) (v := .int .u32 (wn y)) rfl (by kernel_rfl) (by kernel_rfl) (by kernel_rfl) (fun _ _ _ h => h) (Or.inl ⟨by rfl, by intro w hSw; (try dsimp only at hSw); go_simp⟩) (by assumption) rfl ?_
          simp only [Act.put, List.setIfInBounds_toArray, List.set_cons_zero, List.set_cons_succ]
          refine wpAnyH_takeD (i := 10) (d := 39) (v := .pointer (some ⟨b, 0, none⟩)) rfl (by kernel_rfl) (by kernel_rfl) (by kernel_rfl) (fun _ _ _ h => h) (Or.inl ⟨by rfl, by intro w hSw; (try dsimp only at hSw); go_simp⟩) (by assumption) rfl ?_
          simp only [Act.put, List.setIfInBounds_toArray, List.set_cons_zero, List.set_cons_succ]
          refine wpAnyH_takeD (i := 11) (d := 40) (v := .pointer (some ⟨b, 0, none⟩)) rfl (by kernel_rfl) (by kernel_rfl) (by kernel_rfl) (fun _ _ _ h => h) (Or.inl ⟨by rfl, by intro w hSw; (try dsimp only at hSw); go_simp⟩) (by assumption) rfl ?_
          simp only [Act.put, List.setIfInBounds_toArray, List.set_cons_zero, List.set_cons_succ]
          refine wpAnyH_ready (rs := [5]) (by kernel_rfl) (by simp) ?_
          refine AllReadyH.cons rfl (fun K hK => ?_) AllReadyH.nil
          go_simp
          refine hK.out _ _ ?_ (fun hHeld => ?_)
          · exact cy
          clear hK K
          try simp only [Act.put, List.setIfInBounds_toArray, List.set_cons_zero, List.set_cons_succ]
          refine wpAnyH_takeD (i := 9) (d := 38) (v := .int .u32 (wn (x + y))) rfl (by kernel_rfl) (by kernel_rfl) (by kernel_rfl) (fun _ _ _ h => h) (Or.inl ⟨by rfl, by intro w hSw; (try dsimp only at hSw); go_simp⟩) (by assumption) rfl ?_
          simp only [Act.put, List.setIfInBounds_toArray, List.set_cons_zero, List.set_cons_succ]
          refine wpAnyH_takeD (i := 12) (d := 41) (v := .pointer (some ⟨b, q, none⟩)) rfl (by kernel_rfl) (by kernel_rfl) (by kernel_rfl) (fun _ _ _ h => h) (Or.inl ⟨by rfl, by intro w hSw; (try dsimp only at hSw); go_simp⟩) (by assumption) rfl ?_
          simp only [Act.put, List.setIfInBounds_toArray, List.set_cons_zero, List.set_cons_succ]
          refine wpAnyH_ready (rs := [13]) (by kernel_rfl) (by simp) ?_
          refine AllReadyH.cons rfl (fun K hK => ?_) AllReadyH.nil
          go_simp
          have HS2 : Hid (SumAt ((World.drew wr).setCell ⟨b, q, none⟩ (.int .u32 (wn (x + y)))) b (mixP v V (q + 1)) bl n z) := by
            have h1 : SumAt (World.drew wr) b (mixP v V q) bl n z := HS1.out.kept rfl
            have h2 := h1.setW hq8 (x + y)
            rw [HNX.out] at h2
            exact h2
          have A2 : Hid (((World.drew wr).setCell ⟨b, q, none⟩ (.int .u32 (wn (x + y)))).heap[w.heap.size + 1]? = some (.cells V.vals 71 (0, 0))) := by show _ = _; rw [Below.heap_setCell _ _ _ _ (by show w.heap.size + 1 ≠ b; omega)]; exact A1.out
          have L2 : Hid (Below b w ((World.drew wr).setCell ⟨b, q, none⟩ (.int .u32 (wn (x + y))))) := L1.out.drew.setCell (p := ⟨b, q, none⟩) (Nat.le_refl _) _
          have hdr : (World.setCell wr ⟨b, q, none⟩ (.int .u32 (wn (x + y)))).drew = (World.drew wr).setCell ⟨b, q, none⟩ (.int .u32 (wn (x + y))) := rfl
          try rw [hdr]
          refine hK.out _ _ ?_ (fun hHeld => ?_)
          · show World.cell? _ _ = _
            rw [cell_of_row _ _ q _ _ _ A2.out]
            exact vals_at' cy A1.out
          clear hK K hdr
          refine wpAnyH_done (by kernel_rfl) ?_ _
          go_wp2
          go_roundw
          case rel => exact ⟨q + 1, by omega, by go_num, HS2.out, A2.out, L2.out⟩
          case measure => simp [intOf]; omega
        · have hqe : q = 8 := by omega
          subst hqe
          go_wp2
          go_end0
          exact ⟨rfl, by rw [HM.out, ← mixP_all v V]; exact HS1.out, L1.out⟩
end Go.Proofs.YtdjpeickokoclaaDoor
