/-
  Bytes put behind a sum: (*impl.sum).write. What is pushed, piece by piece; a copy of the beginning of a text.
-/
import Derived.Test.YtdjpeickokoclaaDoorGW436
import Derived.Test.YtdjpeickokoclaaDoorGW2
import Derived.Lib.BufferWrite
namespace Go.Proofs.YtdjpeickokoclaaDoor
open Go.RowKit
set_option linter.unusedVariables false
theorem push_some (K : Nat → Wd) (v : Wds) (f l : List UInt8) (m : Nat) (hm : f.length + m < 64) (hl : m ≤ l.length) : pushT K (v, f) l = pushT K (v, f ++ l.take m) (l.drop m) := by
  have h : pushT K (v, f) l = pushT K (pushT K (v, f) (l.take m)) (l.drop m) := by rw [← pushT_append, List.take_append_drop]
  rw [h, pushT_short K v (l.take m) f (by rw [List.length_take]; omega)]
theorem push_full (K : Nat → Wd) (v : Wds) (f l : List UInt8) (m : Nat) (hm : f.length + m = 64) (hl : m ≤ l.length) (h0 : 0 < m) : pushT K (v, f) l = pushT K (mixT K v (f ++ l.take m), []) (l.drop m) := by
  have h : pushT K (v, f) l = pushT K (pushT K (v, f) (l.take m)) (l.drop m) := by rw [← pushT_append, List.take_append_drop]
  have h1 : (l.take m).length = m := by rw [List.length_take]; omega
  rw [h, pushT_full K v (l.take m) f (by omega) (fun e => by rw [e] at h1; simp at h1; omega)]
theorem drop_bytes (p : ByteArray) (m : Nat) (h : m ≤ p.size) : (p.extract m p.size).data.toList = p.data.toList.drop m := by
  simp only [ByteArray.data_extract, Array.toList_extract]
  rw [List.extract_eq_take_drop, List.take_of_length_le (by simp)]
/-- A row of bytes over which others were laid. -/
def laidT (bl : List UInt8) (n : Nat) (l : List UInt8) : List UInt8 := bl.take n ++ l ++ bl.drop (n + l.length)
theorem laidT_len {bl l : List UInt8} {n : Nat} (h : n + l.length ≤ bl.length) : (laidT bl n l).length = bl.length := by
  unfold laidT
  simp only [List.length_append, List.length_take, List.length_drop]
  omega
theorem laidT_take {bl l : List UInt8} {n : Nat} (h : n + l.length ≤ bl.length) : (laidT bl n l).take (n + l.length) = bl.take n ++ l := by
  unfold laidT
  rw [List.take_append_of_le_length (by simp; omega)]
  exact List.take_of_length_le (by simp; omega)
theorem lib_byteC (l : List UInt8) : Lib.byteCells l = byteC l := by
  unfold Lib.byteCells byteC
  exact List.map_congr_left fun b _ => by rw [wn_bw]
/-- 'copy(dst, s)', s a text: as many bytes as the shorter of the two has go over. -/
theorem run_copy_cut {P : Program} (w : World) (dT sT ty elem : TypeId) (g o dLen dCap : Nat) (s : ByteArray) (m : Nat) (hm : Nat.min s.size dLen = m) (cur : Array Value) (t : TypeId)
    (hu : P.underlying dT = some (.slice elem)) (hs : (P.info? elem).map (·.size) = some 1) (hg : w.heap[g]? = some (.cells cur t (0, 0))) (hfit : o + m ≤ cur.size) :
    (Builtin.copy_ #[dT, sT] ty #[.slice (some ⟨g, o, none⟩) dLen dCap, .string s]).run P w =
      .ok (goInt m) (w.setRow g (cur.toList.take o ++ Lib.byteCells (s.data.toList.take m) ++ cur.toList.drop (o + m)).toArray) := by
  have hms : m ≤ s.data.toList.length := by
    have h1 : s.data.toList.length = s.size := rfl
    have := Nat.min_le_left s.size dLen
    have h2 : Nat.min s.size dLen ≤ s.size := this
    omega
  have hlen : (Lib.byteCells (s.data.toList.take m)).length = m := by rw [Lib.byteCells_length, List.length_take]; omega
  have hst := run_storeCells_at P g o t (Lib.byteCells (s.data.toList.take m)) 0 cur w hg (by rw [hlen]; simpa using hfit) (Lib.byteCells_one _)
  have htk : List.take m (List.map (fun b : UInt8 => Value.int IntKind.u8 (b.toNat : Int)) s.data.toList) = Lib.byteCells (s.data.toList.take m) := by
    unfold Lib.byteCells
    rw [List.map_take]
  rw [hlen] at hst
  simp only [Nat.add_zero] at hst
  cases hq : P.info? elem with
  | none => simp [hq] at hs
  | some i =>
    simp [Builtin.copy_, run_underlying hu, Builtin.lenOf, Builtin.firstCells, sizeOf, typeInfo, hq, hm]
    rw [htk, hst]
    simp [Result.andThen]
theorem step_copy_cut {P : Program} {ops : Array Oper} {o : Oper} {a : Act} {w : World} {K : Act → World → Prop} {Q : Exit → Act → World → Prop} {E : Prop}
    (hgd : o.guard = none) (d x : Operand) (dT sT : TypeId) (hop : o.op = Op.call { callee := Callee.builtin Builtin.copy, args := #[d, x], argTypes := #[dT, sT] })
    (elem : TypeId) (hu : P.underlying dT = some (.slice elem)) (hs : (P.info? elem).map (·.size) = some 1)
    (g off dLen dCap : Nat) (hd : a.eval d = .slice (some ⟨g, off, none⟩) dLen dCap) (t : ByteArray) (hx : a.eval x = .string t) (m : Nat) (hm : Nat.min t.size dLen = m)
    (cur : Array Value) (T : TypeId) (hg : w.heap[g]? = some (.cells cur T (0, 0))) (hfit : off + m ≤ cur.size) {n : Nat} (hn : o.dst = some n)
    (hK : K (a.put (some n) (goInt m)) (w.setRow g (cur.toList.take off ++ Lib.byteCells (t.data.toList.take m) ++ cur.toList.drop (off + m)).toArray)) :
    if Region.wanted o (yielded ops a.tmps) = true then Oper.wp P o a w K Q else E := by
  have hw : Region.wanted o (yielded ops a.tmps) = true := by simp [Region.wanted, hgd]
  rw [if_pos hw]
  have hrun := run_copy_cut (P := P) w dT sT o.type elem g off dLen dCap t m hm cur T hu hs hg hfit
  rw [← hn, List.append_assoc] at hK
  unfold Oper.wp
  simp [execOp, hop, resolve, invoke, builtin, hd, hx, hrun, Result.andThen]
  exact hK
/- Of the type 77. -/
/-- A sum in memory that is told by what was pushed. -/
structure SumIs (w : World) (b : Nat) (s : Wds × List UInt8) (z : Int) : Prop where
  short : s.2.length < 64
  row : ∃ bl, SumAt w b (bytesOf s.1) bl s.2.length z ∧ bl.take s.2.length = s.2
theorem SumIs.below {w w' : World} {b : Nat} {s : Wds × List UInt8} {z : Int} (h : SumIs w b s z) (hb : Below w.heap.size w w') : SumIs w' b s z :=
  ⟨h.short, by obtain ⟨bl, h1, h2⟩ := h.row; exact ⟨bl, h1.below hb, h2⟩⟩
theorem SumIs.lt {w : World} {b : Nat} {s : Wds × List UInt8} {z : Int} (h : SumIs w b s z) : b < w.heap.size := by obtain ⟨bl, h1, h2⟩ := h.row; exact h1.lt
/-- Bytes laid over the block. -/
theorem SumAt.laid {w : World} {b n : Nat} {L : List Wd} {bl l : List UInt8} {x z : Int} (h : SumAt w b L bl x z) (hl : n + l.length ≤ 64) :
    SumAt (w.setRow b ((sumC L bl x z).toArray.toList.take (8 + n) ++ Lib.byteCells l ++ (sumC L bl x z).toArray.toList.drop (8 + n + l.length)).toArray) b L (laidT bl n l) x z := by
  have hb := h.bytes
  have hw := h.words
  refine ⟨h.words, by rw [laidT_len (by omega)]; exact h.bytes, ?_⟩
  rw [setRow_heap _ _ _ _ _ _ h.heap]
  have e : (sumC L bl x z).toArray.toList.take (8 + n) ++ Lib.byteCells l ++ (sumC L bl x z).toArray.toList.drop (8 + n + l.length) = sumC L (laidT bl n l) x z := by
    show (sumC L bl x z).take (8 + n) ++ Lib.byteCells l ++ (sumC L bl x z).drop (8 + n + l.length) = _
    have h1 : (sumC L bl x z).take (8 + n) = wordCells L ++ byteC (bl.take n) := by
      unfold sumC
      rw [List.take_append, wordCells_len, hw, List.take_of_length_le (by rw [wordCells_len]; omega), show 8 + n - 8 = n by omega, List.take_append_of_le_length (by rw [byteC_len]; omega)]
      unfold byteC
      rw [List.map_take]
    have h2 : (sumC L bl x z).drop (8 + n + l.length) = byteC (bl.drop (n + l.length)) ++ [.int .i64 x, .int .u64 z] := by
      unfold sumC
      rw [List.drop_append, wordCells_len, hw, List.drop_of_length_le (by rw [wordCells_len]; omega), List.nil_append, show 8 + n + l.length - 8 = n + l.length by omega, List.drop_append_of_le_length (by rw [byteC_len]; omega)]
      unfold byteC
      rw [List.map_drop]
    rw [h1, h2, lib_byteC]
    unfold sumC laidT
    rw [byteC_app, byteC_app]
    simp only [List.append_assoc]
  rw [e]
end Go.Proofs.YtdjpeickokoclaaDoor
/-
  Bytes put behind a sum: (*impl.sum).write, its walk.
-/
namespace Go.Proofs.YtdjpeickokoclaaDoor
open Go.RowKit
set_option linter.unusedVariables false
theorem min_facts438 {a k m : Nat} (h : Nat.min a k = m) : m ≤ a ∧ m ≤ k ∧ (m < k → m = a) ∧ (0 < a → 0 < k → 0 < m) := by
  rcases Nat.le_total a k with h' | h'
  · have e : Nat.min a k = a := Nat.min_eq_left h'
    omega
  · have e : Nat.min a k = k := Nat.min_eq_right h'
    omega
def strOf : Value → Nat
  | .string s => s.size
  | _ => 0
theorem step_load_mid {P : Program} {ops : Array Oper} {o : Oper} {a : Act} {w : World} {K : Act → World → Prop} {Q : Exit → Act → World → Prop} {E : Prop} (hgd : o.guard = none) (ty : TypeId) (x : Operand) (ho : o.op = .load ty x)
    (b off : Nat) (hx : a.eval x = .pointer (some ⟨b, off, none⟩)) (cs : List Value) (d : TypeDesc) (hc : w.rangeAt b off cs)
    (hu : P.underlying ty = some d) (hd : d.isRow = true) (hi : (P.info? ty).map (·.size) = some cs.length) {n : Nat} (hn : o.dst = some n)
    (h : K (a.put (some n) (.agg cs.toArray)) w) : if Region.wanted o (yielded ops a.tmps) = true then Oper.wp P o a w K Q else E := by
  have hw : Region.wanted o (yielded ops a.tmps) = true := by simp [Region.wanted, hgd]
  rw [if_pos hw]
  exact wp_load_mid ty x ho b off hx cs d hc hu hd hi (by rw [hn]; exact h)
theorem Tryd.info_u8b : (Tryd.prog.info? 5).map (fun i => (i.zero, i.size, i.bytes)) = some (some (.int .u8 0), 1, 1) := by kernel_rfl
theorem run_slice_block (w : World) (b n : Nat) (hn : n < 64) : (Instr.sliceAt 74 (.pointer (some ⟨b, 8, none⟩)) (some (.int .i64 (n : Int))) none none).run Tryd.prog w = .ok (.slice (some ⟨b, 8 + n, none⟩) (64 - n) (64 - n)) w := by
  obtain ⟨i, hi, hz, hs, hb⟩ := info_parts Tryd.info_u8b
  have h1 : (0 : Int) ≤ (n : Int) := by omega
  have h2 : (n : Int) ≤ ((64 : Nat) : Int) := by omega
  have hne : ¬ (64 = n) := by omega
  have hadd : (⟨b, 8, none⟩ : Addr).add n = ⟨b, 8 + n, none⟩ := Addr.add_mid b 8 n
  have hrb := run_sliceBound (P := Tryd.prog) (w := w) .i64 (n : Int) 64 .sliceB h1 h2
  simp [Instr.sliceAt, Sem.run_bind, run_underlying Tryd.underlying74, Instr.sureAddr, Instr.sliceBounds, sizeOf, typeInfo, hi, hs]
  rw [hrb]
  simp [hne, hadd]
theorem Tryd.size_byte : (Tryd.prog.info? 5).map (·.size) = some 1 := by kernel_rfl
set_option maxRecDepth 100000 in
set_option maxHeartbeats 8000000 in
theorem write_any (w : World) (b : Nat) (s : Wds × List UInt8) (z : Int) (p : ByteArray) (h : SumIs w b s z) (hR : roundTab w) (hgb : 1 < b) (hp : p.size ≤ 2000000) (hz0 : 0 ≤ z) (hz1 : z ≤ 100000000) :
    Calls Tryd.prog 44 #[.pointer (some ⟨b, 0, none⟩), .string p] w fun e w' => e = .returned (.tuple #[]) ∧ SumIs w' b (pushT kAt s p.data.toList) (z + p.size) ∧ Below b w w' := by
  have HR : Hid (roundTab w) := hR
  have HU64 : Hid (Tryd.prog.underlying 74 = _) := Tryd.underlying74
  have HUB : Hid (Tryd.prog.underlying 22 = _) := Tryd.underlying22
  have HSB : Hid ((Tryd.prog.info? 5).map (·.size) = some 1) := Tryd.size_byte
  have HS64 : Hid ((Tryd.prog.info? 74).map (·.size) = some 64) := Tryd.size_block
  have hw1 : IntKind.u64.wrap (p.size : Int) = (p.size : Int) := by simp [IntKind.wrap, IntKind.signed, IntKind.bits]; omega
  have hw2 : IntKind.u64.wrap (z + (p.size : Int)) = z + (p.size : Int) := by simp [IntKind.wrap, IntKind.signed, IntKind.bits]; omega
  obtain ⟨bl, hs1, hs2⟩ := h.row
  have c73 : w.cell? ⟨b, 73, none⟩ = some (.int .u64 z) := hs1.cellZ
  have f73 : w.frozen? ⟨b, 73, none⟩ = false := hs1.frozen 73
  have H1 : Hid (SumIs (w.setCell ⟨b, 73, none⟩ (.int .u64 (z + (p.size : Int)))) b s (z + p.size)) := ⟨h.short, bl, hs1.setZ _, hs2⟩
  have L1 : Hid (Below b w (w.setCell ⟨b, 73, none⟩ (.int .u64 (z + (p.size : Int))))) := (Below.refl _ _).setCell (p := ⟨b, 73, none⟩) (Nat.le_refl _) _
  clear hs1 hs2 h hR
  go_enter Tryd.func44, Tryd.ntmps44
  go_wp2_with fail
  go_loopw [1] (fun x wr => ∃ (q : ByteArray) (s1 : Wds × List UInt8), x = .string q ∧ q.size ≤ p.size ∧ SumIs wr b s1 (z + p.size) ∧ pushT kAt s1 q.data.toList = pushT kAt s p.data.toList ∧ Below b w wr) (fun x _ => strOf x)
  case atStart => exact ⟨p, s, rfl, Nat.le_refl _, H1.out, rfl, L1.out⟩
  case round =>
    clear H1 L1 c73 f73 hw1 hw2
    obtain ⟨q, s1, rfl, hq, hs1, he1, hl1⟩ := hrel
    obtain ⟨v, f⟩ := s1
    have HS1 : Hid (SumIs wr b (v, f) (z + p.size)) := hs1
    have HE1 : Hid (pushT kAt (v, f) q.data.toList = pushT kAt s p.data.toList) := he1
    have L1 : Hid (Below b w wr) := hl1
    clear hs1 he1 hl1
    by_cases hq0 : 1 ≤ q.size
    · have hne : q.toList.isEmpty = false := by
        have h0 := listSome hq0
        cases h : q.toList with
        | nil => exact absurd h h0
        | cons _ _ => rfl
      obtain ⟨bl, hrow, htk⟩ := HS1.out.row
      have hsh : f.length < 64 := HS1.out.short
      obtain ⟨n, hn⟩ : ∃ n, f.length = n := ⟨_, rfl⟩
      have HROW : Hid (SumAt wr b (bytesOf v) bl n (z + p.size)) := by rw [← hn]; exact hrow
      have HTK : Hid (bl.take n = f) := by rw [← hn]; exact htk
      have HFL : Hid (f.length = n) := hn
      have hn64 : n < 64 := by omega
      have hn64' : (n : Int) < 64 := by omega
      have c72 : wr.cell? ⟨b, 72, none⟩ = some (.int .i64 (n : Int)) := HROW.out.cellN
      obtain ⟨m, hm⟩ : ∃ m, Nat.min q.size (64 - n) = m := ⟨_, rfl⟩
      obtain ⟨hm1, hm2', hm3', hm4'⟩ := min_facts438 hm
      have hm2 : n + m ≤ 64 := by omega
      have HM : Hid (Nat.min q.size (64 - n) = m) := hm
      have hm4 : 0 < m := hm4' (by omega) (by omega)
      have HM3 : Hid (n + m < 64 → m = q.size) := fun hlt => hm3' (by omega)
      have hsl := fun w' => run_slice_block w' b n hn64
      have hql : q.data.toList.length = q.size := rfl
      clear hn hm hrow htk hm3' hm4' hm2'
      go_wp2_with fail
      refine wp_region_held_drew (S := (fun w' => w'.cell? ⟨b, 72, none⟩ = some (.int .i64 (n : Int)))) (by kernel_rfl) ?_ (fun hHeld => ?_)
      · exact c72
      refine wpAnyH_takeD (i := 0) (d := 17) (v := .pointer (some ⟨b, 0, none⟩)) rfl (by kernel_rfl) (by kernel_rfl) (by kernel_rfl) (fun _ _ _ h => h) (Or.inl ⟨by rfl, by intro w hSw; (try dsimp only at hSw); go_simp⟩) (by assumption) rfl ?_
      simp only [Act.put, List.setIfInBounds_toArray, List.set_cons_zero, List.set_cons_succ]
      refine wpAnyH_takeD (i := 1) (d := 18) (v := .pointer (some ⟨b, 0, none⟩)) rfl (by kernel_rfl) (by kernel_rfl) (by kernel_rfl) (fun _ _ _ h => h) (Or.inl ⟨by rfl, by intro w hSw; (try dsimp only at hSw); go_simp⟩) (by assumption) rfl ?_
      simp only [Act.put, List.setIfInBounds_toArray, List.set_cons_zero, List.set_cons_succ]
      refine wpAnyH_takeD (i := 2) (d := 19) (v := .pointer (some ⟨b, 8, none⟩)) rfl (by kernel_rfl) (by kernel_rfl) (by kernel_rfl) (fun _ _ _ h => h) (Or.inl ⟨by rfl, by intro w hSw; (try dsimp only at hSw); go_simp⟩) (by assumption) rfl ?_
      simp only [Act.put, List.setIfInBounds_toArray, List.set_cons_zero, List.set_cons_succ]
      refine wpAnyH_takeD (i := 3) (d := 20) (v := .pointer (some ⟨b, 0, none⟩)) rfl (by kernel_rfl) (by kernel_rfl) (by kernel_rfl) (fun _ _ _ h => h) (Or.inl ⟨by rfl, by intro w hSw; (try dsimp only at hSw); go_simp⟩) (by assumption) rfl ?_
      simp only [Act.put, List.setIfInBounds_toArray, List.set_cons_zero, List.set_cons_succ]
      refine wpAnyH_takeD (i := 4) (d := 21) (v := .pointer (some ⟨b, 0, none⟩)) rfl (by kernel_rfl) (by kernel_rfl) (by kernel_rfl) (fun _ _ _ h => h) (Or.inl ⟨by rfl, by intro w hSw; (try dsimp only at hSw); go_simp⟩) (by assumption) rfl ?_
      simp only [Act.put, List.setIfInBounds_toArray, List.set_cons_zero, List.set_cons_succ]
      refine wpAnyH_takeD (i := 5) (d := 22) (v := .pointer (some ⟨b, 72, none⟩)) rfl (by kernel_rfl) (by kernel_rfl) (by kernel_rfl) (fun _ _ _ h => h) (Or.inl ⟨by rfl, by intro w hSw; (try dsimp only at hSw); go_simp⟩) (by assumption) rfl ?_
      simp only [Act.put, List.setIfInBounds_toArray, List.set_cons_zero, List.set_cons_succ]
      refine wpAnyH_takeD (i := 6) (d := 23) (v := .int .i64 (n : Int)) rfl (by kernel_rfl) (by kernel_rfl) (by kernel_rfl) (fun _ _ _ h => h) (Or.inl ⟨by rfl, by intro w hSw; (try dsimp only at hSw); go_simp⟩) (by assumption) rfl ?_
      simp only [Act.put, List.setIfInBounds_toArray, List.set_cons_zero, List.set_cons_succ]
      refine wpAnyH_takeD (i := 7) (d := 24) (v := .slice (some ⟨b, 8 + n, none⟩) (64 - n) (64 - n)) rfl (by kernel_rfl) (by kernel_rfl) (by kernel_rfl) (fun _ _ _ h => h) (Or.inl ⟨by rfl, by intro w hSw; (try dsimp only at hSw); go_simp⟩) (by assumption) rfl ?_
      simp only [Act.put, List.setIfInBounds_toArray, List.set_cons_zero, List.set_cons_succ]
      refine wpAnyH_takeD (i := 8) (d := 25) (v := .string q) rfl (by kernel_rfl) (by kernel_rfl) (by kernel_rfl) (fun _ _ _ h => h) (Or.inl ⟨by rfl, by intro w hSw; (try dsimp only at hSw); go_simp⟩) (by assumption) rfl ?_
      simp only [Act.put, List.setIfInBounds_toArray, List.set_cons_zero, List.set_cons_succ]
      refine wpAnyH_ready (rs := [9]) (by kernel_rfl) (by simp) ?_
      refine AllReadyH.cons rfl (fun K hK => ?_) AllReadyH.nil
      refine step_copy_cut rfl (.tmp 24) (.tmp 25) 22 9 rfl 5 HUB.out HSB.out b (8 + n) (64 - n) (64 - n) rfl q rfl m HM.out (sumC (bytesOf v) bl n (z + p.size)).toArray 77 HROW.out.heap (by have h1 := HROW.out.bytes; have h2 := HROW.out.words; simp [sumC, wordCells_len, byteC_len]; omega) (n := 26) rfl ?_
      obtain ⟨w5, hw5⟩ : ∃ x, (World.drew wr).setRow b ((sumC (bytesOf v) bl n (z + p.size)).toArray.toList.take (8 + n) ++ Lib.byteCells (q.data.toList.take m) ++ (sumC (bytesOf v) bl n (z + p.size)).toArray.toList.drop (8 + n + m)).toArray = x := ⟨_, rfl⟩
      have htl : (q.data.toList.take m).length = m := by rw [List.length_take]; omega
      have H5 : Hid (SumAt w5 b (bytesOf v) (laidT bl n (q.data.toList.take m)) n (z + p.size)) := by
        show SumAt _ _ _ _ _ _
        have h1 := SumAt.laid (w := World.drew wr) (n := n) (l := q.data.toList.take m) (HROW.out.kept rfl) (by rw [htl]; exact hm2)
        rw [htl, hw5] at h1
        exact h1
      have L5 : Hid (Below b w w5) := by show Below _ _ _; rw [← hw5]; exact below_setRow L1.out.drew (Nat.le_refl _) _
      have d72 : w5.cell? ⟨b, 72, none⟩ = some (.int .i64 (n : Int)) := H5.out.cellN
      have HT5 : Hid ((laidT bl n (q.data.toList.take m)).take (n + m) = f ++ q.data.toList.take m) := by
        have h1 := laidT_take (bl := bl) (l := q.data.toList.take m) (n := n) (by rw [htl]; have := HROW.out.bytes; omega)
        rw [htl, HTK.out] at h1
        exact h1
      have HN5 : Hid ((laidT bl n (q.data.toList.take m)).length = 64) := H5.out.bytes
      rw [hw5]
      clear hw5 htl
      refine hK.out _ _ ?_ (fun hHeld => ?_)
      · exact d72
      clear hK K
      simp only [Act.put, List.setIfInBounds_toArray, List.set_cons_zero, List.set_cons_succ]
      refine wpAnyH_takeD (i := 10) (d := 4) (v := .int .i64 (m : Int)) rfl (by kernel_rfl) (by kernel_rfl) (by kernel_rfl) (fun _ _ _ h => h) (Or.inl ⟨by rfl, by intro w hSw; (try dsimp only at hSw); go_simp⟩) (by assumption) rfl ?_
      simp only [Act.put, List.setIfInBounds_toArray, List.set_cons_zero, List.set_cons_succ]
      refine wpAnyH_done (by kernel_rfl) ?_ _
      obtain ⟨bm, hbm⟩ : ∃ x, laidT bl n (q.data.toList.take m) = x := ⟨_, rfl⟩
      rw [hbm] at H5 HT5 HN5
      have g72 : w5.frozen? ⟨b, 72, none⟩ = false := H5.out.frozen 72
      have hmq : (m : Int) ≤ (q.size : Int) := by omega
      have hm0 : (0 : Int) ≤ (m : Int) := by omega
      have HX : Hid ((q.extract m q.size).data.toList = q.data.toList.drop m) := drop_bytes q m hm1
      have HXS : Hid ((q.extract m q.size).size + m = q.size) := by show _ = _; rw [ByteArray.size_extract]; omega
      clear hbm c72 hsl
      by_cases hful : n + m < 64
      · obtain ⟨r, hr⟩ : ∃ r, n + m = r := ⟨_, rfl⟩
        have hwr : IntKind.i64.wrap ((n : Int) + (m : Int)) = (r : Int) := by rw [show (n : Int) + (m : Int) = (r : Int) by omega]; exact IntWalk.i64_in _ (by omega)
        have hr64 : ¬ ((r : Int) = 64) := by omega
        have HP : Hid (pushT kAt (v, f ++ q.data.toList.take m) (q.data.toList.drop m) = pushT kAt s p.data.toList) := by show _ = _; rw [← HE1.out, push_some kAt v f q.data.toList m (by rw [HFL.out]; omega) (by omega)]
        have H6 : Hid (SumIs (w5.setCell ⟨b, 72, none⟩ (.int .i64 (r : Int))) b (v, f ++ q.data.toList.take m) (z + p.size)) := by
          have hle : (f ++ q.data.toList.take m).length = r := by rw [List.length_append, HFL.out, List.length_take]; omega
          refine ⟨by show (f ++ _).length < 64; omega, bm, ?_, ?_⟩
          · show SumAt _ _ _ _ ((f ++ q.data.toList.take m).length : Nat) _
            rw [hle]
            exact H5.out.setN _
          · show bm.take (f ++ q.data.toList.take m).length = _
            rw [hle, ← hr]
            exact HT5.out
        have L6 : Hid (Below b w (w5.setCell ⟨b, 72, none⟩ (.int .i64 (r : Int)))) := L5.out.setCell (p := ⟨b, 72, none⟩) (Nat.le_refl _) _
        clear hr
        go_wp2_with fail
        go_roundw
        case rel => exact ⟨q.extract m q.size, (v, f ++ q.data.toList.take m), rfl, by have := HXS.out; omega, H6.out, by rw [HX.out]; exact HP.out, L6.out⟩
        case measure => simp [strOf]; have := HXS.out; omega
      · have hr64 : n + m = 64 := by omega
        have hwr : IntKind.i64.wrap ((n : Int) + (m : Int)) = 64 := by rw [show (n : Int) + (m : Int) = 64 by omega]; exact IntWalk.i64_in _ (by omega)
        have hbmf : bm = f ++ q.data.toList.take m := by rw [← HT5.out, hr64]; exact (List.take_of_length_le (by rw [HN5.out]; exact Nat.le_refl _)).symm
        have HP : Hid (pushT kAt (mixT kAt v bm, []) (q.data.toList.drop m) = pushT kAt s p.data.toList) := by show _ = _; rw [← HE1.out, push_full kAt v f q.data.toList m (by rw [HFL.out]; omega) (by omega) hm4, hbmf]
        have H6 : Hid (SumAt (w5.setCell ⟨b, 72, none⟩ (.int .i64 64)) b (bytesOf v) bm 64 (z + p.size)) := H5.out.setN _
        have L6 : Hid (Below b w (w5.setCell ⟨b, 72, none⟩ (.int .i64 64))) := L5.out.setCell (p := ⟨b, 72, none⟩) (Nat.le_refl _) _
        clear hr64 hbmf hful
        go_wp2_with fail
        refine wp_region_held_drew (S := (fun _ => True)) (by kernel_rfl) ?_ (fun hHeld => ?_)
        · trivial
        refine wpAnyH_takeD (i := 0) (d := 43) (v := .pointer (some ⟨b, 0, none⟩)) rfl (by kernel_rfl) (by kernel_rfl) (by kernel_rfl) (fun _ _ _ h => h) (Or.inl ⟨by rfl, by intro w hSw; (try dsimp only at hSw); go_simp⟩) (by assumption) rfl ?_
        simp only [Act.put, List.setIfInBounds_toArray, List.set_cons_zero, List.set_cons_succ]
        refine wpAnyH_takeD (i := 1) (d := 44) (v := .pointer (some ⟨b, 0, none⟩)) rfl (by kernel_rfl) (by kernel_rfl) (by kernel_rfl) (fun _ _ _ h => h) (Or.inl ⟨by rfl, by intro w hSw; (try dsimp only at hSw); go_simp⟩) (by assumption) rfl ?_
        simp only [Act.put, List.setIfInBounds_toArray, List.set_cons_zero, List.set_cons_succ]
        refine wpAnyH_takeD (i := 2) (d := 45) (v := .pointer (some ⟨b, 0, none⟩)) rfl (by kernel_rfl) (by kernel_rfl) (by kernel_rfl) (fun _ _ _ h => h) (Or.inl ⟨by rfl, by intro w hSw; (try dsimp only at hSw); go_simp⟩) (by assumption) rfl ?_
        simp only [Act.put, List.setIfInBounds_toArray, List.set_cons_zero, List.set_cons_succ]
        refine wpAnyH_takeD (i := 3) (d := 46) (v := .pointer (some ⟨b, 0, none⟩)) rfl (by kernel_rfl) (by kernel_rfl) (by kernel_rfl) (fun _ _ _ h => h) (Or.inl ⟨by rfl, by intro w hSw; (try dsimp only at hSw); go_simp⟩) (by assumption) rfl ?_
        simp only [Act.put, List.setIfInBounds_toArray, List.set_cons_zero, List.set_cons_succ]
        refine wpAnyH_takeD (i := 4) (d := 47) (v := .pointer (some ⟨b, 0, none⟩)) rfl (by kernel_rfl) (by kernel_rfl) (by kernel_rfl) (fun _ _ _ h => h) (Or.inl ⟨by rfl, by intro w hSw; (try dsimp only at hSw); go_simp⟩) (by assumption) rfl ?_
        simp only [Act.put, List.setIfInBounds_toArray, List.set_cons_zero, List.set_cons_succ]
        refine wpAnyH_takeD (i := 5) (d := 48) (v := .pointer (some ⟨b, 8, none⟩)) rfl (by kernel_rfl) (by kernel_rfl) (by kernel_rfl) (fun _ _ _ h => h) (Or.inl ⟨by rfl, by intro w hSw; (try dsimp only at hSw); go_simp⟩) (by assumption) rfl ?_
        simp only [Act.put, List.setIfInBounds_toArray, List.set_cons_zero, List.set_cons_succ]
        refine wpAnyH_ready (rs := [6]) (by kernel_rfl) (by simp) ?_
        refine AllReadyH.cons rfl (fun K hK => ?_) AllReadyH.nil
        refine step_load_mid rfl 74 (.tmp 48) rfl b 8 rfl (byteC bm) _ H6.out.rangeB HU64.out rfl (by rw [byteC_len, HN5.out]; exact HS64.out) (n := 49) rfl ?_
        refine hK.out _ _ ?_ (fun hHeld => ?_)
        · trivial
        clear hK K
        simp only [Act.put, List.setIfInBounds_toArray, List.set_cons_zero, List.set_cons_succ]
        refine wpAnyH_ready (rs := [7]) (by kernel_rfl) (by simp) ?_
        refine AllReadyH.cons rfl (fun K hK => ?_) AllReadyH.nil
        go_simp
        refine (mix_any (World.drew (w5.setCell ⟨b, 72, none⟩ (.int .i64 64))) b v bm bm 64 (z + p.size) (H6.out.kept rfl) (HR.out.from hgb L6.out.drew) HN5.out).mono ?_
        rintro e w7 ⟨rfl, hs7, hb7⟩
        have e72 : w7.cell? ⟨b, 72, none⟩ = some (.int .i64 64) := hs7.cellN
        have k72 : w7.frozen? ⟨b, 72, none⟩ = false := hs7.frozen 72
        have H8 : Hid (SumIs (w7.setCell ⟨b, 72, none⟩ (.int .i64 0)) b (mixT kAt v bm, []) (z + p.size)) := ⟨by show 0 < 64; omega, bm, hs7.setN 0, rfl⟩
        have L8 : Hid (Below b w (w7.setCell ⟨b, 72, none⟩ (.int .i64 0))) := (L6.out.drew.trans hb7).setCell (p := ⟨b, 72, none⟩) (Nat.le_refl _) _
        clear hs7 hb7
        refine hK.out _ _ ?_ (fun hHeld => ?_)
        · trivial
        clear hK K
        try simp only [Act.put, List.setIfInBounds_toArray, List.set_cons_zero, List.set_cons_succ]
        refine wpAnyH_done (by kernel_rfl) ?_ _
        go_wp2_with fail
        go_roundw
        case rel => exact ⟨q.extract m q.size, (mixT kAt v bm, []), rfl, by have := HXS.out; omega, H8.out, by rw [HX.out]; exact HP.out, L8.out⟩
        case measure => simp [strOf]; have := HXS.out; omega
    · have hne : q.toList.isEmpty = true := by rw [listNil hq0]; rfl
      have hdn : q.data.toList = [] := List.length_eq_zero_iff.1 (by have : q.data.toList.length = q.size := rfl; omega)
      rw [hdn] at HE1
      have HE2 : Hid ((v, f) = pushT kAt s p.data.toList) := HE1.out
      clear hdn
      go_wp2_with fail
      go_end0
      exact ⟨rfl, by rw [← HE2.out]; exact HS1.out, L1.out⟩
end Go.Proofs.YtdjpeickokoclaaDoor
