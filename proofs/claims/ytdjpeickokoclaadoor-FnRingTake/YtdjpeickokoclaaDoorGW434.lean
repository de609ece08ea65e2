/-
  The words of a block: spec.l6Words.
-/
import Derived.Test.YtdjpeickokoclaaDoorGW213
import Derived.Test.YtdjpeickokoclaaDoorW189
import Derived.Deep.DeepAppendRoom
import Derived.BigQuiet
namespace Go.Proofs.YtdjpeickokoclaaDoor
open Go.RowKit
set_option linter.unusedVariables false
theorem made_words (w : World) : (Instr.makeSlice 88 (.int .i64 0) (.int .i64 64)).run Tryd.prog w = .ok (.slice (some ⟨w.heap.size, 0, none⟩) 0 64) (w.alloc (.cells (madeCells #[.int .u32 0] 64) 70)) := by
  obtain ⟨i, hi, hz, hs, hb⟩ := info_parts Tryd.info_u32
  rw [run_makeSlice w 88 70 i _ Tryd.underlying88 hi hz .i64 .i64 0 64 (by omega) (by omega) (by rw [hs]; decide) (by rw [hb]; decide) (by omega), hs]
  rfl
theorem wn_one (a : Wd) : ∀ u ∈ [Value.int .u32 (wn a)], u.oneCell' = true := by intro u hu; simp at hu; subst hu; rfl
theorem sched_lo {bs : List UInt8} {k : Nat} (h : k < 16) : schedTo bs (k + 1) = schedTo bs k ++ [w4 (bAt bs (4 * k)) (bAt bs (4 * k + 1)) (bAt bs (4 * k + 2)) (bAt bs (4 * k + 3))] := by rw [schedTo, if_pos h]
theorem sched_hi {bs : List UInt8} {k : Nat} (h : ¬ k < 16) : schedTo bs (k + 1) = schedTo bs k ++ [wAt (schedTo bs k) (k - 16) + sg0 (wAt (schedTo bs k) (k - 15)) + wAt (schedTo bs k) (k - 7) + sg1 (wAt (schedTo bs k) (k - 2))] := by
  rw [schedTo, if_neg h]
  congr 2
  simp only [BitVec.add_assoc]
  congr 1
  simp only [← BitVec.add_assoc]
  congr 1
  exact BitVec.add_comm _ _
theorem row_word {w : World} {lo g n c : Nat} {l : List Wd} {more : List Value} (h : w.ownsRow lo 70 1 (.slice (some ⟨g, 0, none⟩) n c) n (wordCells l ++ more)) {i : Nat} (hi : i < l.length) : w.cell? ⟨g, i, none⟩ = some (.int .u32 (wn (wAt l i))) := by
  have hc := World.ownsRow.cells h (g := g) rfl i (.int .u32 (wn (wAt l i))) (by
    rw [List.getElem?_append_left (by rw [wordCells_len]; exact hi)]
    unfold wordCells wAt
    rw [List.getElem?_map, List.getElem?_eq_getElem hi, List.getD_eq_getElem?_getD, List.getElem?_eq_getElem hi]
    rfl)
  have hadd : (⟨g, 0, none⟩ : Addr).add i = ⟨g, i, none⟩ := by unfold Addr.add; split <;> simp_all
  rwa [hadd] at hc
/-- append with room, as one step of a region that draws. -/
theorem step_append_spare {P : Program} {w : World} {ops : Array Oper} {o : Oper} {a : Act} {K : Act → World → Prop} {Q : Exit → Act → World → Prop} {E : Prop} (hgd : o.guard = none) (s x : Operand) (t : TypeId)
    (ho : o.op = .call { callee := .builtin .append, args := #[s, x], argTypes := #[t, t] })
    (base : Nat) (e : TypeId) (i : TypeInfo) (size : Nat) (ht : P.underlying t = some (.slice e)) (hi : P.info? e = some i) (hsize : i.size = size)
    (g n cap : Nat) (xs : List Value) (hs : a.eval s = .slice (some ⟨g, 0, none⟩) n cap) (hown : w.ownsRow base e size (.slice (some ⟨g, 0, none⟩) n cap) n xs)
    (ad : Addr) (m c : Nat) (news : List Value) (hx : a.eval x = .slice (some ad) m c) (hl : news.length = m * size) (hnews : ∀ j u, news[j]? = some u → w.cell? (ad.add j) = some u) (h1 : ∀ u ∈ news, u.oneCell' = true)
    (hroom : n + m ≤ cap) {d : Nat} (hd : o.dst = some d)
    (h : ∀ w', w'.ownsRow base e size (.slice (some ⟨g, 0, none⟩) (n + m) cap) (n + m) (xs ++ news) → w.grownBy w' (some g) → K (a.put (some d) (.slice (some ⟨g, 0, none⟩) (n + m) cap)) w') :
    if Region.wanted o (yielded ops a.tmps) = true then Oper.wp P o a w K Q else E := by
  have hw : Region.wanted o (yielded ops a.tmps) = true := by simp [Region.wanted, hgd]
  rw [if_pos hw]
  exact wp_append_own_spare w s x t ho base e i size ht hi hsize g n cap xs hs hown ad m c news hx hl hnews h1 hroom (by rw [hd]; exact h)
set_option maxRecDepth 100000 in
set_option maxHeartbeats 8000000 in
theorem l6Words_any (w : World) (B o cap : Nat) (bs : List UInt8) (h : BytesAt w B o bs) (hb : bs.length = 64) (hcap : 64 ≤ cap) :
    Calls Tryd.prog 61 #[.slice (some ⟨B, o, none⟩) 64 cap] w fun e w' => ∃ v', e = .returned v' ∧ w'.ownsRow w.heap.size 70 1 v' 64 (wordCells (schedTo bs 64)) ∧ Below w.heap.size w w' := by
  have HB : Hid (BytesAt w B o bs) := h
  clear h
  have hBl : B < w.heap.size := HB.out.1
  obtain ⟨i3, hi3, hz3, hs3, hb3⟩ := info_parts Tryd.info_u32
  have hmk := made_words
  have hr1 := wn_wrap
  have hr2 := wn_shl8
  have hr3 := wn_shl16
  have hr4 := wn_shl24
  have hr5 := wn_or
  have hr6 := wn_xor
  have hr7 := wn_add
  have hr8 : ∀ a : Wd, wn a / (8 : Int) = wn (a >>> 3) := fun a => wn_shr a 3
  have hr9 : ∀ a : Wd, wn a / (1024 : Int) = wn (a >>> 10) := fun a => wn_shr a 10
  go_enter Tryd.func61, Tryd.ntmps61
  go_wp2_with fail
  go_loopw [3, 4] (fun x i wr => ∃ (k : Nat), k ≤ 16 ∧ i = .int .i64 k ∧ x = .slice (some ⟨w.heap.size, 0, none⟩) k 64 ∧ wr.ownsRow w.heap.size 70 1 (.slice (some ⟨w.heap.size, 0, none⟩) k 64) k (wordCells (schedTo bs k)) ∧ Below w.heap.size w wr) (fun _ i _ => 16 - (intOf i).toNat)
  case atStart => exact ⟨0, Nat.zero_le _, rfl, rfl, World.ownsRow_made w _ 64 (Nat.le_refl _) (by unfold maxLen; omega) (by rw [size_madeCells]), (Below.refl _ _).alloc (Nat.le_refl _) _⟩
  case round =>
    obtain ⟨k, hk, rfl, rfl, ho, hb1⟩ := hrel
    have HO : Hid (wr.ownsRow w.heap.size 70 1 (.slice (some ⟨w.heap.size, 0, none⟩) k 64) k (wordCells (schedTo bs k))) := ho
    have HL : Hid (Below w.heap.size w wr) := hb1
    have hBl2 : B < wr.heap.size := Nat.lt_of_lt_of_le hBl HL.out.size
    clear ho hb1
    by_cases hlt : k < 16
    · have hlt' : (k : Int) < 16 := by omega
      obtain ⟨q0, hq0⟩ : ∃ q, 4 * k + 0 = q := ⟨_, rfl⟩
      obtain ⟨b0, hbb0⟩ : ∃ b, bAt bs q0 = b := ⟨_, rfl⟩
      have x0 : wr.cell? ⟨B, o + q0, none⟩ = some (.int .u8 (wn (bw b0))) := by rw [← hbb0]; exact (HL.out.cell (p := ⟨B, o + q0, none⟩) hBl).trans (HB.out.2 q0 (by omega))
      have l0 : (q0 : Int) < 64 := by omega
      have p0 : q0 < 64 := by omega
      obtain ⟨q1, hq1⟩ : ∃ q, 4 * k + 1 = q := ⟨_, rfl⟩
      obtain ⟨b1, hbb1⟩ : ∃ b, bAt bs q1 = b := ⟨_, rfl⟩
      have x1 : wr.cell? ⟨B, o + q1, none⟩ = some (.int .u8 (wn (bw b1))) := by rw [← hbb1]; exact (HL.out.cell (p := ⟨B, o + q1, none⟩) hBl).trans (HB.out.2 q1 (by omega))
      have l1 : (q1 : Int) < 64 := by omega
      have p1 : q1 < 64 := by omega
      obtain ⟨q2, hq2⟩ : ∃ q, 4 * k + 2 = q := ⟨_, rfl⟩
      obtain ⟨b2, hbb2⟩ : ∃ b, bAt bs q2 = b := ⟨_, rfl⟩
      have x2 : wr.cell? ⟨B, o + q2, none⟩ = some (.int .u8 (wn (bw b2))) := by rw [← hbb2]; exact (HL.out.cell (p := ⟨B, o + q2, none⟩) hBl).trans (HB.out.2 q2 (by omega))
      have l2 : (q2 : Int) < 64 := by omega
      have p2 : q2 < 64 := by omega
      obtain ⟨q3, hq3⟩ : ∃ q, 4 * k + 3 = q := ⟨_, rfl⟩
      obtain ⟨b3, hbb3⟩ : ∃ b, bAt bs q3 = b := ⟨_, rfl⟩
      have x3 : wr.cell? ⟨B, o + q3, none⟩ = some (.int .u8 (wn (bw b3))) := by rw [← hbb3]; exact (HL.out.cell (p := ⟨B, o + q3, none⟩) hBl).trans (HB.out.2 q3 (by omega))
      have l3 : (q3 : Int) < 64 := by omega
      have p3 : q3 < 64 := by omega
      have m0 : IntKind.i64.wrap (4 * (k : Int)) = (q0 : Int) := by rw [show 4 * (k : Int) = (q0 : Int) by omega]; exact IntWalk.i64_in _ (by omega)
      have m1 : IntKind.i64.wrap ((q0 : Int) + 1) = (q1 : Int) := by rw [show (q0 : Int) + 1 = (q1 : Int) by omega]; exact IntWalk.i64_in _ (by omega)
      have m2 : IntKind.i64.wrap ((q0 : Int) + 2) = (q2 : Int) := by rw [show (q0 : Int) + 2 = (q2 : Int) by omega]; exact IntWalk.i64_in _ (by omega)
      have m3 : IntKind.i64.wrap ((q0 : Int) + 3) = (q3 : Int) := by rw [show (q0 : Int) + 3 = (q3 : Int) by omega]; exact IntWalk.i64_in _ (by omega)
      have HS : Hid (schedTo bs (k + 1) = schedTo bs k ++ [((bw b0 <<< 24) ||| (bw b1 <<< 16) ||| (bw b2 <<< 8) ||| bw b3)]) := by show _ = _; rw [sched_lo hlt, hq1, hq2, hq3, show 4 * k = q0 from hq0, hbb0, hbb1, hbb2, hbb3]; rfl
      clear hq0 hbb0 hq1 hbb1 hq2 hbb2 hq3 hbb3
      go_wp2_with fail
      refine wp_region_held_drew (S := (fun w' => w'.cell? ⟨B, o + q0, none⟩ = some (.int .u8 (wn (bw b0))) ∧ w'.cell? ⟨B, o + q1, none⟩ = some (.int .u8 (wn (bw b1))) ∧ w'.cell? ⟨B, o + q2, none⟩ = some (.int .u8 (wn (bw b2))) ∧ w'.cell? ⟨B, o + q3, none⟩ = some (.int .u8 (wn (bw b3))))) (by kernel_rfl) ?_ (fun hHeld => ?_)
      · (first | go_keep | ((try dsimp only); go_keep))
      refine wpAnyH_takeD (i := 0) (d := 15) (v := .slice (some ⟨w.heap.size, 0, none⟩) k 64) rfl (by kernel_rfl) (by kernel_rfl) (by kernel_rfl) (fun _ _ _ h => h) (Or.inl ⟨by rfl, by intro w hSw; (try dsimp only at hSw); go_simp⟩) (by assumption) rfl ?_
      simp only [Act.put, List.setIfInBounds_toArray, List.set_cons_zero, List.set_cons_succ]
      refine wpAnyH_takeD (i := 1) (d := 16) (v := .slice (some ⟨B, o, none⟩) 64 cap) rfl (by kernel_rfl) (by kernel_rfl) (by kernel_rfl) (fun _ _ _ h => h) (Or.inl ⟨by rfl, by intro w hSw; (try dsimp only at hSw); go_simp⟩) (by assumption) rfl ?_
      simp only [Act.put, List.setIfInBounds_toArray, List.set_cons_zero, List.set_cons_succ]
      refine wpAnyH_takeD (i := 2) (d := 17) (v := .int .i64 (k : Int)) rfl (by kernel_rfl) (by kernel_rfl) (by kernel_rfl) (fun _ _ _ h => h) (Or.inl ⟨by rfl, by intro w hSw; (try dsimp only at hSw); go_simp⟩) (by assumption) rfl ?_
      simp only [Act.put, List.setIfInBounds_toArray, List.set_cons_zero, List.set_cons_succ]
      refine wpAnyH_takeD (i := 3) (d := 18) (v := .int .i64 (q0 : Int)) rfl (by kernel_rfl) (by kernel_rfl) (by kernel_rfl) (fun _ _ _ h => h) (Or.inl ⟨by rfl, by intro w hSw; (try dsimp only at hSw); go_simp⟩) (by assumption) rfl ?_
      simp only [Act.put, List.setIfInBounds_toArray, List.set_cons_zero, List.set_cons_succ]
      refine wpAnyH_takeD (i := 4) (d := 19) (v := .pointer (some ⟨B, o + q0, none⟩)) rfl (by kernel_rfl) (by kernel_rfl) (by kernel_rfl) (fun _ _ _ h => h) (Or.inl ⟨by rfl, by intro w hSw; (try dsimp only at hSw); go_simp⟩) (by assumption) rfl ?_
      simp only [Act.put, List.setIfInBounds_toArray, List.set_cons_zero, List.set_cons_succ]
      refine wpAnyH_takeD (i := 5) (d := 20) (v := .int .u8 (wn (bw b0))) rfl (by kernel_rfl) (by kernel_rfl) (by kernel_rfl) (fun _ _ _ h => h) (Or.inl ⟨by rfl, by intro w hSw; (try dsimp only at hSw); go_simp⟩) (by assumption) rfl ?_
      simp only [Act.put, List.setIfInBounds_toArray, List.set_cons_zero, List.set_cons_succ]
      refine wpAnyH_takeD (i := 6) (d := 21) (v := .int .u32 (wn (bw b0))) rfl (by kernel_rfl) (by kernel_rfl) (by kernel_rfl) (fun _ _ _ h => h) (Or.inl ⟨by rfl, by intro w hSw; (try dsimp only at hSw); go_simp⟩) (by assumption) rfl ?_
      simp only [Act.put, List.setIfInBounds_toArray, List.set_cons_zero, List.set_cons_succ]
      refine wpAnyH_takeD (i := 7) (d := 22) (v := .int .u32 (wn ((bw b0) <<< 24))) rfl (by kernel_rfl) (by kernel_rfl) (by kernel_rfl) (fun _ _ _ h => h) (Or.inl ⟨by rfl, by intro w hSw; (try dsimp only at hSw); go_simp⟩) (by assumption) rfl ?_
      simp only [Act.put, List.setIfInBounds_toArray, List.set_cons_zero, List.set_cons_succ]
      refine wpAnyH_takeD (i := 8) (d := 23) (v := .slice (some ⟨B, o, none⟩) 64 cap) rfl (by kernel_rfl) (by kernel_rfl) (by kernel_rfl) (fun _ _ _ h => h) (Or.inl ⟨by rfl, by intro w hSw; (try dsimp only at hSw); go_simp⟩) (by assumption) rfl ?_
      simp only [Act.put, List.setIfInBounds_toArray, List.set_cons_zero, List.set_cons_succ]
      refine wpAnyH_takeD (i := 9) (d := 24) (v := .int .i64 (k : Int)) rfl (by kernel_rfl) (by kernel_rfl) (by kernel_rfl) (fun _ _ _ h => h) (Or.inl ⟨by rfl, by intro w hSw; (try dsimp only at hSw); go_simp⟩) (by assumption) rfl ?_
      simp only [Act.put, List.setIfInBounds_toArray, List.set_cons_zero, List.set_cons_succ]
      refine wpAnyH_takeD (i := 10) (d := 25) (v := .int .i64 (q0 : Int)) rfl (by kernel_rfl) (by kernel_rfl) (by kernel_rfl) (fun _ _ _ h => h) (Or.inl ⟨by rfl, by intro w hSw; (try dsimp only at hSw); go_simp⟩) (by assumption) rfl ?_
      simp only [Act.put, List.setIfInBounds_toArray, List.set_cons_zero, List.set_cons_succ]
      refine wpAnyH_takeD (i := 11) (d := 26) (v := .int .i64 (q1 : Int)) rfl (by kernel_rfl) (by kernel_rfl) (by kernel_rfl) (fun _ _ _ h => h) (Or.inl ⟨by rfl, by intro w hSw; (try dsimp only at hSw); go_simp⟩) (by assumption) rfl ?_
      simp only [Act.put, List.setIfInBounds_toArray, List.set_cons_zero, List.set_cons_succ]
      refine wpAnyH_takeD (i := 12) (d := 27) (v := .pointer (some ⟨B, o + q1, none⟩)) rfl (by kernel_rfl) (by kernel_rfl) (by kernel_rfl) (fun _ _ _ h => h) (Or.inl ⟨by rfl, by intro w hSw; (try dsimp only at hSw); go_simp⟩) (by assumption) rfl ?_
      simp only [Act.put, List.setIfInBounds_toArray, List.set_cons_zero, List.set_cons_succ]
      refine wpAnyH_takeD (i := 13) (d := 28) (v := .int .u8 (wn (bw b1))) rfl (by kernel_rfl) (by kernel_rfl) (by kernel_rfl) (fun _ _ _ h => h) (Or.inl ⟨by rfl, by intro w hSw; (try dsimp only at hSw); go_simp⟩) (by assumption) rfl ?_
      simp only [Act.put, List.setIfInBounds_toArray, List.set_cons_zero, List.set_cons_succ]
      refine wpAnyH_takeD (i := 14) (d := 29) (v := .int .u32 (wn (bw b1))) rfl (by kernel_rfl) (by kernel_rfl) (by kernel_rfl) (fun _ _ _ h => h) (Or.inl ⟨by rfl, by intro w hSw; (try dsimp only at hSw); go_simp⟩) (by assumption) rfl ?_
      simp only [Act.put, List.setIfInBounds_toArray, List.set_cons_zero, List.set_cons_succ]
      refine wpAnyH_takeD (i := 15) (d := 30) (v := .int .u32 (wn ((bw b1) <<< 16))) rfl (by kernel_rfl) (by kernel_rfl) (by kernel_rfl) (fun _ _ _ h => h) (Or.inl ⟨by rfl, by intro w hSw; (try dsimp only at hSw); go_simp⟩) (by assumption) rfl ?_
      simp only [Act.put, List.setIfInBounds_toArray, List.set_cons_zero, List.set_cons_succ]
      refine wpAnyH_takeD (i := 16) (d := 31) (v := .int .u32 (wn (((bw b0) <<< 24) ||| ((bw b1) <<< 16)))) rfl (by kernel_rfl) (by kernel_rfl) (by kernel_rfl) (fun _ _ _ h => h) (Or.inl ⟨by rfl, by intro w hSw; (try dsimp only at hSw); go_simp⟩) (by assumption) rfl ?_
      simp only [Act.put, List.setIfInBounds_toArray, List.set_cons_zero, List.set_cons_succ]
      refine wpAnyH_takeD (i := 17) (d := 32) (v := .slice (some ⟨B, o, none⟩) 64 cap) rfl (by kernel_rfl) (by kernel_rfl) (by kernel_rfl) (fun _ _ _ h => h) (Or.inl ⟨by rfl, by intro w hSw; (try dsimp only at hSw); go_simp⟩) (by assumption) rfl ?_
      simp only [Act.put, List.setIfInBounds_toArray, List.set_cons_zero, List.set_cons_succ]
      refine wpAnyH_takeD (i := 18) (d := 33) (v := .int .i64 (k : Int)) rfl (by kernel_rfl) (by kernel_rfl) (by kernel_rfl) (fun _ _ _ h => h) (Or.inl ⟨by rfl, by intro w hSw; (try dsimp only at hSw); go_simp⟩) (by assumption) rfl ?_
      simp only [Act.put, List.setIfInBounds_toArray, List.set_cons_zero, List.set_cons_succ]
      refine wpAnyH_takeD (i := 19) (d := 34) (v := .int .i64 (q0 : Int)) rfl (by kernel_rfl) (by kernel_rfl) (by kernel_rfl) (fun _ _ _ h => h) (Or.inl ⟨by rfl, by intro w hSw; (try dsimp only at hSw); go_simp⟩) (by assumption) rfl ?_
      simp only [Act.put, List.setIfInBounds_toArray, List.set_cons_zero, List.set_cons_succ]
      refine wpAnyH_takeD (i := 20) (d := 35) (v := .int .i64 (q2 : Int)) rfl (by kernel_rfl) (by kernel_rfl) (by kernel_rfl) (fun _ _ _ h => h) (Or.inl ⟨by rfl, by intro w hSw; (try dsimp only at hSw); go_simp⟩) (by assumption) rfl ?_
      simp only [Act.put, List.setIfInBounds_toArray, List.set_cons_zero, List.set_cons_succ]
      refine wpAnyH_takeD (i := 21) (d := 36) (v := .pointer (some ⟨B, o + q2, none⟩)) rfl (by kernel_rfl) (by kernel_rfl) (by kernel_rfl) (fun _ _ _ h => h) (Or.inl ⟨by rfl, by intro w hSw; (try dsimp only at hSw); go_simp⟩) (by assumption) rfl ?_
      simp only [Act.put, List.setIfInBounds_toArray, List.set_cons_zero, List.set_cons_succ]
      refine wpAnyH_takeD (i := 22) (d := 37) (v := .int .u8 (wn (bw b2))) rfl (by kernel_rfl) (by kernel_rfl) (by kernel_rfl) (fun _ _ _ h => h) (Or.inl ⟨by rfl, by intro w hSw; (try dsimp only at hSw); go_simp⟩) (by assumption) rfl ?_
      simp only [Act.put, List.setIfInBounds_toArray, List.set_cons_zero, List.set_cons_succ]
      refine wpAnyH_takeD (i := 23) (d := 38) (v := .int .u32 (wn (bw b2))) rfl (by kernel_rfl) (by kernel_rfl) (by kernel_rfl) (fun _ _ _ h => h) (Or.inl ⟨by rfl, by intro w hSw; (try dsimp only at hSw); go_simp⟩) (by assumption) rfl ?_
      simp only [Act.put, List.setIfInBounds_toArray, List.set_cons_zero, List.set_cons_succ]
      refine wpAnyH_takeD (i := 24) (d := 39) (v := .int .u32 (wn ((bw b2) <<< 8))) rfl (by kernel_rfl) (by kernel_rfl) (by kernel_rfl) (fun _ _ _ h => h) (Or.inl ⟨by rfl, by intro w hSw; (try dsimp only at hSw); go_simp⟩) (by assumption) rfl ?_
      simp only [Act.put, List.setIfInBounds_toArray, List.set_cons_zero, List.set_cons_succ]
      refine wpAnyH_takeD (i := 25) (d := 40) (v := .int .u32 (wn ((((bw b0) <<< 24) ||| ((bw b1) <<< 16)) ||| ((bw b2) <<< 8)))) rfl (by kernel_rfl) (by kernel_rfl) (by kernel_rfl) (fun _ _ _ h => h) (Or.inl ⟨by rfl, by intro w hSw; (try dsimp only at hSw); go_simp⟩) (by assumption) rfl ?_
      simp only [Act.put, List.setIfInBounds_toArray, List.set_cons_zero, List.set_cons_succ]
      refine wpAnyH_takeD (i := 26) (d := 41) (v := .slice (some ⟨B, o, none⟩) 64 cap) rfl (by kernel_rfl) (by kernel_rfl) (by kernel_rfl) (fun _ _ _ h => h) (Or.inl ⟨by rfl, by intro w hSw; (try dsimp only at hSw); go_simp⟩) (by assumption) rfl ?_
      simp only [Act.put, List.setIfInBounds_toArray, List.set_cons_zero, List.set_cons_succ]
      refine wpAnyH_takeD (i := 27) (d := 42) (v := .int .i64 (k : Int)) rfl (by kernel_rfl) (by kernel_rfl) (by kernel_rfl) (fun _ _ _ h => h) (Or.inl ⟨by rfl, by intro w hSw; (try dsimp only at hSw); go_simp⟩) (by assumption) rfl ?_
      simp only [Act.put, List.setIfInBounds_toArray, List.set_cons_zero, List.set_cons_succ]
      refine wpAnyH_takeD (i := 28) (d := 43) (v := .int .i64 (q0 : Int)) rfl (by kernel_rfl) (by kernel_rfl) (by kernel_rfl) (fun _ _ _ h => h) (Or.inl ⟨by rfl, by intro w hSw; (try dsimp only at hSw); go_simp⟩) (by assumption) rfl ?_
      simp only [Act.put, List.setIfInBounds_toArray, List.set_cons_zero, List.set_cons_succ]
      refine wpAnyH_takeD (i := 29) (d := 44) (v := .int .i64 (q3 : Int)) rfl (by kernel_rfl) (by kernel_rfl) (by kernel_rfl) (fun _ _ _ h => h) (Or.inl ⟨by rfl, by intro w hSw; (try dsimp only at hSw); go_simp⟩) (by assumption) rfl ?_
      simp only [Act.put, List.setIfInBounds_toArray, List.set_cons_zero, List.set_cons_succ]
      refine wpAnyH_takeD (i := 30) (d := 45) (v := .pointer (some ⟨B, o + q3, none⟩)) rfl (by kernel_rfl) (by kernel_rfl) (by kernel_rfl) (fun _ _ _ h => h) (Or.inl ⟨by rfl, by intro w hSw; (try dsimp only at hSw); go_simp⟩) (by assumption) rfl ?_
      simp only [Act.put, List.setIfInBounds_toArray, List.set_cons_zero, List.set_cons_succ]
      refine wpAnyH_takeD (i := 31) (d := 46) (v := .int .u8 (wn (bw b3))) rfl (by kernel_rfl) (by kernel_rfl) (by kernel_rfl) (fun _ _ _ h => h) (Or.inl ⟨by rfl, by intro w hSw; (try dsimp only at hSw); go_simp⟩) (by assumption) rfl ?_
      simp only [Act.put, List.setIfInBounds_toArray, List.set_cons_zero, List.set_cons_succ]
      refine wpAnyH_takeD (i := 32) (d := 47) (v := .int .u32 (wn (bw b3))) rfl (by kernel_rfl) (by kernel_rfl) (by kernel_rfl) (fun _ _ _ h => h) (Or.inl ⟨by rfl, by intro w hSw; (try dsimp only at hSw); go_simp⟩) (by assumption) rfl ?_
      simp only [Act.put, List.setIfInBounds_toArray, List.set_cons_zero, List.set_cons_succ]
      refine wpAnyH_takeD (i := 33) (d := 48) (v := .int .u32 (wn (((((bw b0) <<< 24) ||| ((bw b1) <<< 16)) ||| ((bw b2) <<< 8)) ||| (bw b3)))) rfl (by kernel_rfl) (by kernel_rfl) (by kernel_rfl) (fun _ _ _ h => h) (Or.inl ⟨by rfl, by intro w hSw; (try dsimp only at hSw); go_simp⟩) (by assumption) rfl ?_
      simp only [Act.put, List.setIfInBounds_toArray, List.set_cons_zero, List.set_cons_succ]
      refine wpAnyH_ready (rs := [34]) (by kernel_rfl) (by simp) ?_
      refine AllReadyH.cons rfl (fun K hK => ?_) AllReadyH.nil
      go_simp
      obtain ⟨w1, hw1⟩ : ∃ x, (World.drew wr).alloc (.cells #[.int .u32 (wn (((((bw b0) <<< 24) ||| ((bw b1) <<< 16)) ||| ((bw b2) <<< 8)) ||| (bw b3)))] 70) = x := ⟨_, rfl⟩
      have D1 : Hid (Below wr.heap.size wr w1) := by rw [← hw1]; exact (Below.refl _ wr).drew.alloc (Nat.le_refl _) _
      have N1 : Hid (w1.heap[wr.heap.size]? = some (.cells #[.int .u32 (wn (((((bw b0) <<< 24) ||| ((bw b1) <<< 16)) ||| ((bw b2) <<< 8)) ||| (bw b3)))] 70 (0, 0))) := by show _ = _; rw [← hw1]; exact heap_alloc_last (World.drew wr) _
      have y0 : w1.cell? ⟨B, o + q0, none⟩ = some (.int .u8 (wn (bw b0))) := (D1.out.cell (p := ⟨B, o + q0, none⟩) hBl2).trans x0
      have y1 : w1.cell? ⟨B, o + q1, none⟩ = some (.int .u8 (wn (bw b1))) := (D1.out.cell (p := ⟨B, o + q1, none⟩) hBl2).trans x1
      have y2 : w1.cell? ⟨B, o + q2, none⟩ = some (.int .u8 (wn (bw b2))) := (D1.out.cell (p := ⟨B, o + q2, none⟩) hBl2).trans x2
      have y3 : w1.cell? ⟨B, o + q3, none⟩ = some (.int .u8 (wn (bw b3))) := (D1.out.cell (p := ⟨B, o + q3, none⟩) hBl2).trans x3
      have hdr : (World.alloc wr (.cells #[.int .u32 (wn (((((bw b0) <<< 24) ||| ((bw b1) <<< 16)) ||| ((bw b2) <<< 8)) ||| (bw b3)))] 70)).drew = w1 := by rw [← hw1]; rfl
      first | rw [hdr] | rw [hw1]
      clear hw1 hdr
      refine hK.out _ _ ?_ (fun hHeld => ?_)
      · (first | go_keep | ((try dsimp only); go_keep))
      clear hK K
      try simp only [Act.put, List.setIfInBounds_toArray, List.set_cons_zero, List.set_cons_succ]
      refine wpAnyH_ready (rs := [35]) (by kernel_rfl) (by simp) ?_
      refine AllReadyH.cons rfl (fun K hK => ?_) AllReadyH.nil
      refine step_append_spare rfl (.tmp 15) (.tmp 49) 88 rfl w.heap.size 70 i3 1 Tryd.underlying88 hi3 hs3 w.heap.size k 64 (wordCells (schedTo bs k)) rfl (owns_below HO.out D1.out) ⟨wr.heap.size, 0, none⟩ 1 1 [.int .u32 (wn (((((bw b0) <<< 24) ||| ((bw b1) <<< 16)) ||| ((bw b2) <<< 8)) ||| (bw b3)))] rfl rfl (news_cells N1.out) (wn_one _) (by omega) (d := 50) rfl ?_
      intro w2 hown hgrow
      have HO1 := owns_below HO.out D1.out
      have HL2 : Hid (Below w.heap.size w w2) := (HL.out.trans (D1.out.mono HL.out.size)).trans (below_of_grown hgrow (fun z hz => by cases hz; exact Nat.le_refl _) (by have := HL.out.size; have := D1.out.size; omega))
      have HO2 : Hid (w2.ownsRow w.heap.size 70 1 (.slice (some ⟨w.heap.size, 0, none⟩) (k + 1) 64) (k + 1) (wordCells (schedTo bs (k + 1)))) := by show World.ownsRow _ _ _ _ _ _ _; rw [HS.out, wordCells_append]; exact hown
      have z0 : w2.cell? ⟨B, o + q0, none⟩ = some (.int .u8 (wn (bw b0))) := (HL2.out.cell (p := ⟨B, o + q0, none⟩) hBl).trans ((HL.out.cell (p := ⟨B, o + q0, none⟩) hBl).symm.trans x0)
      have z1 : w2.cell? ⟨B, o + q1, none⟩ = some (.int .u8 (wn (bw b1))) := (HL2.out.cell (p := ⟨B, o + q1, none⟩) hBl).trans ((HL.out.cell (p := ⟨B, o + q1, none⟩) hBl).symm.trans x1)
      have z2 : w2.cell? ⟨B, o + q2, none⟩ = some (.int .u8 (wn (bw b2))) := (HL2.out.cell (p := ⟨B, o + q2, none⟩) hBl).trans ((HL.out.cell (p := ⟨B, o + q2, none⟩) hBl).symm.trans x2)
      have z3 : w2.cell? ⟨B, o + q3, none⟩ = some (.int .u8 (wn (bw b3))) := (HL2.out.cell (p := ⟨B, o + q3, none⟩) hBl).trans ((HL.out.cell (p := ⟨B, o + q3, none⟩) hBl).symm.trans x3)
      clear hown hgrow HO1
      refine hK.out _ _ ?_ (fun hHeld => ?_)
      · (first | go_keep | ((try dsimp only); go_keep))
      clear hK K
      simp only [Act.put, List.setIfInBounds_toArray, List.set_cons_zero, List.set_cons_succ]
      refine wpAnyH_takeD (i := 36) (d := 3) (v := .slice (some ⟨w.heap.size, 0, none⟩) (k + 1) 64) rfl (by kernel_rfl) (by kernel_rfl) (by kernel_rfl) (fun _ _ _ h => h) (Or.inl ⟨by rfl, by intro w hSw; (try dsimp only at hSw); go_simp⟩) (by assumption) rfl ?_
      simp only [Act.put, List.setIfInBounds_toArray, List.set_cons_zero, List.set_cons_succ]
      refine wpAnyH_done (by kernel_rfl) ?_ _
      go_wp2
      go_roundw
      case rel => exact ⟨k + 1, by omega, by go_num, rfl, HO2.out, HL2.out⟩
      case measure => simp [intOf]; omega
    · have hke : k = 16 := by omega
      have HKE : Hid (k = 16) := hke
      have HO16 : Hid (wr.ownsRow w.heap.size 70 1 (.slice (some ⟨w.heap.size, 0, none⟩) 16 64) 16 (wordCells (schedTo bs 16))) := by have := HO.out; rw [hke] at this; exact this
      have hkn : ¬ ((k : Int) < 16) := by omega
      clear hke HO
      go_wp2_with fail
      obtain ⟨wq, hwq⟩ : ∃ x, x = wr := ⟨_, rfl⟩
      subst hwq
      go_loopw [3, 5] (fun x i wr => ∃ (k : Nat), 16 ≤ k ∧ k ≤ 64 ∧ i = .int .i64 k ∧ x = .slice (some ⟨w.heap.size, 0, none⟩) k 64 ∧ wr.ownsRow w.heap.size 70 1 (.slice (some ⟨w.heap.size, 0, none⟩) k 64) k (wordCells (schedTo bs k)) ∧ Below w.heap.size w wr) (fun _ i _ => 64 - (intOf i).toNat)
      case atStart => exact ⟨16, by omega, by omega, rfl, by rw [HKE.out], HO16.out, HL.out⟩
      case round =>
        clear HO16 HL hBl2 hkn hlt HKE hk
        obtain ⟨k, hk16, hk, rfl, rfl, ho, hb1⟩ := hrel
        have HO : Hid (wr.ownsRow w.heap.size 70 1 (.slice (some ⟨w.heap.size, 0, none⟩) k 64) k (wordCells (schedTo bs k))) := ho
        have HL : Hid (Below w.heap.size w wr) := hb1
        clear hb1
        by_cases hlt : k < 64
        · have hlt' : (k : Int) < 64 := by omega
          obtain ⟨q0, hq0⟩ : ∃ q, k - 16 = q := ⟨_, rfl⟩
          obtain ⟨u0, hu0⟩ : ∃ u, wAt (schedTo bs k) q0 = u := ⟨_, rfl⟩
          have m0 : IntKind.i64.wrap ((k : Int) - 16) = (q0 : Int) := by rw [show (k : Int) - 16 = (q0 : Int) by omega]; exact IntWalk.i64_in _ (by omega)
          have mm0 : (k : Int) - 16 = (q0 : Int) := by omega
          have mw0 : IntKind.i64.wrap (q0 : Int) = (q0 : Int) := IntWalk.i64_in _ (by omega)
          have l0 : (q0 : Int) < k := by omega
          have p0 : q0 < k := by omega
          have x0 : wr.cell? ⟨w.heap.size, q0, none⟩ = some (.int .u32 (wn u0)) := by rw [← hu0]; exact row_word (more := []) (by rw [List.append_nil]; exact HO.out) (by rw [schedTo_len]; exact p0)
          obtain ⟨q1, hq1⟩ : ∃ q, k - 15 = q := ⟨_, rfl⟩
          obtain ⟨u1, hu1⟩ : ∃ u, wAt (schedTo bs k) q1 = u := ⟨_, rfl⟩
          have m1 : IntKind.i64.wrap ((k : Int) - 15) = (q1 : Int) := by rw [show (k : Int) - 15 = (q1 : Int) by omega]; exact IntWalk.i64_in _ (by omega)
          have mm1 : (k : Int) - 15 = (q1 : Int) := by omega
          have mw1 : IntKind.i64.wrap (q1 : Int) = (q1 : Int) := IntWalk.i64_in _ (by omega)
          have l1 : (q1 : Int) < k := by omega
          have p1 : q1 < k := by omega
          have x1 : wr.cell? ⟨w.heap.size, q1, none⟩ = some (.int .u32 (wn u1)) := by rw [← hu1]; exact row_word (more := []) (by rw [List.append_nil]; exact HO.out) (by rw [schedTo_len]; exact p1)
          obtain ⟨q2, hq2⟩ : ∃ q, k - 7 = q := ⟨_, rfl⟩
          obtain ⟨u2, hu2⟩ : ∃ u, wAt (schedTo bs k) q2 = u := ⟨_, rfl⟩
          have m2 : IntKind.i64.wrap ((k : Int) - 7) = (q2 : Int) := by rw [show (k : Int) - 7 = (q2 : Int) by omega]; exact IntWalk.i64_in _ (by omega)
          have mm2 : (k : Int) - 7 = (q2 : Int) := by omega
          have mw2 : IntKind.i64.wrap (q2 : Int) = (q2 : Int) := IntWalk.i64_in _ (by omega)
          have l2 : (q2 : Int) < k := by omega
          have p2 : q2 < k := by omega
          have x2 : wr.cell? ⟨w.heap.size, q2, none⟩ = some (.int .u32 (wn u2)) := by rw [← hu2]; exact row_word (more := []) (by rw [List.append_nil]; exact HO.out) (by rw [schedTo_len]; exact p2)
          obtain ⟨q3, hq3⟩ : ∃ q, k - 2 = q := ⟨_, rfl⟩
          obtain ⟨u3, hu3⟩ : ∃ u, wAt (schedTo bs k) q3 = u := ⟨_, rfl⟩
          have m3 : IntKind.i64.wrap ((k : Int) - 2) = (q3 : Int) := by rw [show (k : Int) - 2 = (q3 : Int) by omega]; exact IntWalk.i64_in _ (by omega)
          have mm3 : (k : Int) - 2 = (q3 : Int) := by omega
          have mw3 : IntKind.i64.wrap (q3 : Int) = (q3 : Int) := IntWalk.i64_in _ (by omega)
          have l3 : (q3 : Int) < k := by omega
          have p3 : q3 < k := by omega
          have x3 : wr.cell? ⟨w.heap.size, q3, none⟩ = some (.int .u32 (wn u3)) := by rw [← hu3]; exact row_word (more := []) (by rw [List.append_nil]; exact HO.out) (by rw [schedTo_len]; exact p3)
          have hg0 : w.heap.size < wr.heap.size := (HO.out.lt w.heap.size rfl).2
          have K0 : Hid (wAt (schedTo bs k) q0 = u0) := hu0
          have K2 : Hid (wAt (schedTo bs k) q2 = u2) := hu2
          have HS : Hid (schedTo bs (k + 1) = schedTo bs k ++ [u0 + (ror u1 7 ^^^ ror u1 18 ^^^ (u1 >>> 3)) + u2 + (ror u3 17 ^^^ ror u3 19 ^^^ (u3 >>> 10))]) := by show _ = _; rw [sched_hi (by omega), hq0, hq1, hq2, hq3, hu0, hu1, hu2, hu3]; rfl
          clear ho hq0 hu0 hq1 hu1 hq2 hu2 hq3 hu3
          have D0 : Hid (Below wr.heap.size wr wr) := Below.refl _ _
          go_wp2_with fail
          refine (turn_any u1 7 (by omega) (by omega) _).mono ?_
          rintro e v0 ⟨rfl, hb9⟩
          have D1 : Hid (Below wr.heap.size wr v0) := D0.out.trans (hb9.mono D0.out.size)
          have t0_0 : v0.cell? ⟨w.heap.size, q0, none⟩ = some (.int .u32 (wn u0)) := (D1.out.cell (p := ⟨w.heap.size, q0, none⟩) hg0).trans x0
          have t0_1 : v0.cell? ⟨w.heap.size, q1, none⟩ = some (.int .u32 (wn u1)) := (D1.out.cell (p := ⟨w.heap.size, q1, none⟩) hg0).trans x1
          have t0_2 : v0.cell? ⟨w.heap.size, q2, none⟩ = some (.int .u32 (wn u2)) := (D1.out.cell (p := ⟨w.heap.size, q2, none⟩) hg0).trans x2
          have t0_3 : v0.cell? ⟨w.heap.size, q3, none⟩ = some (.int .u32 (wn u3)) := (D1.out.cell (p := ⟨w.heap.size, q3, none⟩) hg0).trans x3
          clear hb9
          go_wp2_with fail
          refine (turn_any u1 18 (by omega) (by omega) _).mono ?_
          rintro e v1 ⟨rfl, hb9⟩
          have D2 : Hid (Below wr.heap.size wr v1) := D1.out.trans (hb9.mono D1.out.size)
          have t1_0 : v1.cell? ⟨w.heap.size, q0, none⟩ = some (.int .u32 (wn u0)) := (D2.out.cell (p := ⟨w.heap.size, q0, none⟩) hg0).trans x0
          have t1_1 : v1.cell? ⟨w.heap.size, q1, none⟩ = some (.int .u32 (wn u1)) := (D2.out.cell (p := ⟨w.heap.size, q1, none⟩) hg0).trans x1
          have t1_2 : v1.cell? ⟨w.heap.size, q2, none⟩ = some (.int .u32 (wn u2)) := (D2.out.cell (p := ⟨w.heap.size, q2, none⟩) hg0).trans x2
          have t1_3 : v1.cell? ⟨w.heap.size, q3, none⟩ = some (.int .u32 (wn u3)) := (D2.out.cell (p := ⟨w.heap.size, q3, none⟩) hg0).trans x3
          clear hb9 t0_0 t0_1 t0_2 t0_3
          go_wp2_with fail
          refine (turn_any u3 17 (by omega) (by omega) _).mono ?_
          rintro e v2 ⟨rfl, hb9⟩
          have D3 : Hid (Below wr.heap.size wr v2) := D2.out.trans (hb9.mono D2.out.size)
          have t2_0 : v2.cell? ⟨w.heap.size, q0, none⟩ = some (.int .u32 (wn u0)) := (D3.out.cell (p := ⟨w.heap.size, q0, none⟩) hg0).trans x0
          have t2_1 : v2.cell? ⟨w.heap.size, q1, none⟩ = some (.int .u32 (wn u1)) := (D3.out.cell (p := ⟨w.heap.size, q1, none⟩) hg0).trans x1
          have t2_2 : v2.cell? ⟨w.heap.size, q2, none⟩ = some (.int .u32 (wn u2)) := (D3.out.cell (p := ⟨w.heap.size, q2, none⟩) hg0).trans x2
          have t2_3 : v2.cell? ⟨w.heap.size, q3, none⟩ = some (.int .u32 (wn u3)) := (D3.out.cell (p := ⟨w.heap.size, q3, none⟩) hg0).trans x3
          clear hb9 t1_0 t1_1 t1_2 t1_3
          go_wp2_with fail
          refine (turn_any u3 19 (by omega) (by omega) _).mono ?_
          rintro e v3 ⟨rfl, hb9⟩
          have D4 : Hid (Below wr.heap.size wr v3) := D3.out.trans (hb9.mono D3.out.size)
          have t3_0 : v3.cell? ⟨w.heap.size, q0, none⟩ = some (.int .u32 (wn u0)) := (D4.out.cell (p := ⟨w.heap.size, q0, none⟩) hg0).trans x0
          have t3_1 : v3.cell? ⟨w.heap.size, q1, none⟩ = some (.int .u32 (wn u1)) := (D4.out.cell (p := ⟨w.heap.size, q1, none⟩) hg0).trans x1
          have t3_2 : v3.cell? ⟨w.heap.size, q2, none⟩ = some (.int .u32 (wn u2)) := (D4.out.cell (p := ⟨w.heap.size, q2, none⟩) hg0).trans x2
          have t3_3 : v3.cell? ⟨w.heap.size, q3, none⟩ = some (.int .u32 (wn u3)) := (D4.out.cell (p := ⟨w.heap.size, q3, none⟩) hg0).trans x3
          clear hb9 t2_0 t2_1 t2_2 t2_3
          have HO3 : Hid (v3.ownsRow w.heap.size 70 1 (.slice (some ⟨w.heap.size, 0, none⟩) k 64) k (wordCells (schedTo bs k))) := owns_below HO.out D4.out
          have HL3 : Hid (Below w.heap.size w v3) := HL.out.trans (D4.out.mono HL.out.size)
          have hg3 : w.heap.size < v3.heap.size := Nat.lt_of_lt_of_le hg0 D4.out.size
          clear HO HL x0 x1 x2 x3 D0 D1 D2 D3 D4 hg0
          obtain ⟨T1, hT1⟩ : ∃ t, ror u1 7 ^^^ ror u1 18 ^^^ (u1 >>> 3) = t := ⟨_, rfl⟩
          obtain ⟨T2, hT2⟩ : ∃ t, ror u3 17 ^^^ ror u3 19 ^^^ (u3 >>> 10) = t := ⟨_, rfl⟩
          rw [hT1, hT2] at HS
          go_wp2_with fail
          clear hT1 hT2
          refine wp_region_held_drew (S := (fun w' => w'.cell? ⟨w.heap.size, q0, none⟩ = some (.int .u32 (wn u0)) ∧ w'.cell? ⟨w.heap.size, q2, none⟩ = some (.int .u32 (wn u2)))) (by kernel_rfl) ?_ (fun hHeld => ?_)
          · (first | go_keep | ((try dsimp only); go_keep))
          refine wpAnyH_takeD (i := 0) (d := 81) (v := .slice (some ⟨w.heap.size, 0, none⟩) k 64) rfl (by kernel_rfl) (by kernel_rfl) (by kernel_rfl) (fun _ _ _ h => h) (Or.inl ⟨by rfl, by intro w hSw; (try dsimp only at hSw); go_simp⟩) (by assumption) rfl ?_
          simp only [Act.put, List.setIfInBounds_toArray, List.set_cons_zero, List.set_cons_succ]
          refine wpAnyH_takeD (i := 1) (d := 82) (v := .slice (some ⟨w.heap.size, 0, none⟩) k 64) rfl (by kernel_rfl) (by kernel_rfl) (by kernel_rfl) (fun _ _ _ h => h) (Or.inl ⟨by rfl, by intro w hSw; (try dsimp only at hSw); go_simp⟩) (by assumption) rfl ?_
          simp only [Act.put, List.setIfInBounds_toArray, List.set_cons_zero, List.set_cons_succ]
          refine wpAnyH_takeD (i := 2) (d := 83) (v := .int .i64 (k : Int)) rfl (by kernel_rfl) (by kernel_rfl) (by kernel_rfl) (fun _ _ _ h => h) (Or.inl ⟨by rfl, by intro w hSw; (try dsimp only at hSw); go_simp⟩) (by assumption) rfl ?_
          simp only [Act.put, List.setIfInBounds_toArray, List.set_cons_zero, List.set_cons_succ]
          refine wpAnyH_takeD (i := 3) (d := 84) (v := .int .i64 (q0 : Int)) rfl (by kernel_rfl) (by kernel_rfl) (by kernel_rfl) (fun _ _ _ h => h) (Or.inl ⟨by rfl, by intro w hSw; (try dsimp only at hSw); go_simp⟩) (by assumption) rfl ?_
          simp only [Act.put, List.setIfInBounds_toArray, List.set_cons_zero, List.set_cons_succ]
          refine wpAnyH_takeD (i := 4) (d := 85) (v := .pointer (some ⟨w.heap.size, q0, none⟩)) rfl (by kernel_rfl) (by kernel_rfl) (by kernel_rfl) (fun _ _ _ h => h) (Or.inl ⟨by rfl, by intro w hSw; (try dsimp only at hSw); go_simp⟩) (by assumption) rfl ?_
          simp only [Act.put, List.setIfInBounds_toArray, List.set_cons_zero, List.set_cons_succ]
          refine wpAnyH_takeD (i := 5) (d := 86) (v := .int .u32 (wn (u0))) rfl (by kernel_rfl) (by kernel_rfl) (by kernel_rfl) (fun _ _ _ h => h) (Or.inl ⟨by rfl, by intro w hSw; (try dsimp only at hSw); go_simp⟩) (by assumption) rfl ?_
          simp only [Act.put, List.setIfInBounds_toArray, List.set_cons_zero, List.set_cons_succ]
          refine wpAnyH_takeD (i := 6) (d := 87) (v := .int .u32 (wn (T1))) rfl (by kernel_rfl) (by kernel_rfl) (by kernel_rfl) (fun _ _ _ h => h) (Or.inl ⟨by rfl, by intro w hSw; (try dsimp only at hSw); go_simp⟩) (by assumption) rfl ?_
          simp only [Act.put, List.setIfInBounds_toArray, List.set_cons_zero, List.set_cons_succ]
          refine wpAnyH_takeD (i := 7) (d := 88) (v := .int .u32 (wn (u0 + T1))) rfl (by kernel_rfl) (by kernel_rfl) (by kernel_rfl) (fun _ _ _ h => h) (Or.inl ⟨by rfl, by intro w hSw; (try dsimp only at hSw); go_simp⟩) (by assumption) rfl ?_
          simp only [Act.put, List.setIfInBounds_toArray, List.set_cons_zero, List.set_cons_succ]
          refine wpAnyH_takeD (i := 8) (d := 89) (v := .slice (some ⟨w.heap.size, 0, none⟩) k 64) rfl (by kernel_rfl) (by kernel_rfl) (by kernel_rfl) (fun _ _ _ h => h) (Or.inl ⟨by rfl, by intro w hSw; (try dsimp only at hSw); go_simp⟩) (by assumption) rfl ?_
          simp only [Act.put, List.setIfInBounds_toArray, List.set_cons_zero, List.set_cons_succ]
          refine wpAnyH_takeD (i := 9) (d := 90) (v := .int .i64 (k : Int)) rfl (by kernel_rfl) (by kernel_rfl) (by kernel_rfl) (fun _ _ _ h => h) (Or.inl ⟨by rfl, by intro w hSw; (try dsimp only at hSw); go_simp⟩) (by assumption) rfl ?_
          simp only [Act.put, List.setIfInBounds_toArray, List.set_cons_zero, List.set_cons_succ]
          refine wpAnyH_takeD (i := 10) (d := 91) (v := .int .i64 (q2 : Int)) rfl (by kernel_rfl) (by kernel_rfl) (by kernel_rfl) (fun _ _ _ h => h) (Or.inl ⟨by rfl, by intro w hSw; (try dsimp only at hSw); go_simp⟩) (by assumption) rfl ?_
          simp only [Act.put, List.setIfInBounds_toArray, List.set_cons_zero, List.set_cons_succ]
          refine wpAnyH_takeD (i := 11) (d := 92) (v := .pointer (some ⟨w.heap.size, q2, none⟩)) rfl (by kernel_rfl) (by kernel_rfl) (by kernel_rfl) (fun _ _ _ h => h) (Or.inl ⟨by rfl, by intro w hSw; (try dsimp only at hSw); go_simp⟩) (by assumption) rfl ?_
          simp only [Act.put, List.setIfInBounds_toArray, List.set_cons_zero, List.set_cons_succ]
          refine wpAnyH_takeD (i := 12) (d := 93) (v := .int .u32 (wn (u2))) rfl (by kernel_rfl) (by kernel_rfl) (by kernel_rfl) (fun _ _ _ h => h) (Or.inl ⟨by rfl, by intro w hSw; (try dsimp only at hSw); go_simp⟩) (by assumption) rfl ?_
          simp only [Act.put, List.setIfInBounds_toArray, List.set_cons_zero, List.set_cons_succ]
          refine wpAnyH_takeD (i := 13) (d := 94) (v := .int .u32 (wn ((u0 + T1) + (u2)))) rfl (by kernel_rfl) (by kernel_rfl) (by kernel_rfl) (fun _ _ _ h => h) (Or.inl ⟨by rfl, by intro w hSw; (try dsimp only at hSw); go_simp⟩) (by assumption) rfl ?_
          simp only [Act.put, List.setIfInBounds_toArray, List.set_cons_zero, List.set_cons_succ]
          refine wpAnyH_takeD (i := 14) (d := 95) (v := .int .u32 (wn (T2))) rfl (by kernel_rfl) (by kernel_rfl) (by kernel_rfl) (fun _ _ _ h => h) (Or.inl ⟨by rfl, by intro w hSw; (try dsimp only at hSw); go_simp⟩) (by assumption) rfl ?_
          simp only [Act.put, List.setIfInBounds_toArray, List.set_cons_zero, List.set_cons_succ]
          refine wpAnyH_takeD (i := 15) (d := 96) (v := .int .u32 (wn (((u0 + T1) + (u2)) + (T2)))) rfl (by kernel_rfl) (by kernel_rfl) (by kernel_rfl) (fun _ _ _ h => h) (Or.inl ⟨by rfl, by intro w hSw; (try dsimp only at hSw); go_simp⟩) (by assumption) rfl ?_
          simp only [Act.put, List.setIfInBounds_toArray, List.set_cons_zero, List.set_cons_succ]
          refine wpAnyH_ready (rs := [16]) (by kernel_rfl) (by simp) ?_
          refine AllReadyH.cons rfl (fun K hK => ?_) AllReadyH.nil
          go_simp
          obtain ⟨w1, hw1⟩ : ∃ x, (World.drew v3).alloc (.cells #[.int .u32 (wn (((u0 + T1) + (u2)) + (T2)))] 70) = x := ⟨_, rfl⟩
          have D1 : Hid (Below v3.heap.size v3 w1) := by rw [← hw1]; exact (Below.refl _ v3).drew.alloc (Nat.le_refl _) _
          have N1 : Hid (w1.heap[v3.heap.size]? = some (.cells #[.int .u32 (wn (((u0 + T1) + (u2)) + (T2)))] 70 (0, 0))) := by show _ = _; rw [← hw1]; exact heap_alloc_last (World.drew v3) _
          have y0 : w1.cell? ⟨w.heap.size, q0, none⟩ = some (.int .u32 (wn u0)) := (D1.out.cell (p := ⟨w.heap.size, q0, none⟩) hg3).trans t3_0
          have y2 : w1.cell? ⟨w.heap.size, q2, none⟩ = some (.int .u32 (wn u2)) := (D1.out.cell (p := ⟨w.heap.size, q2, none⟩) hg3).trans t3_2
          have hdr : (World.alloc v3 (.cells #[.int .u32 (wn (((u0 + T1) + (u2)) + (T2)))] 70)).drew = w1 := by rw [← hw1]; rfl
          first | rw [hdr] | rw [hw1]
          clear hw1 hdr
          refine hK.out _ _ ?_ (fun hHeld => ?_)
          · (first | go_keep | ((try dsimp only); go_keep))
          clear hK K
          try simp only [Act.put, List.setIfInBounds_toArray, List.set_cons_zero, List.set_cons_succ]
          refine wpAnyH_ready (rs := [17]) (by kernel_rfl) (by simp) ?_
          refine AllReadyH.cons rfl (fun K hK => ?_) AllReadyH.nil
          refine step_append_spare rfl (.tmp 81) (.tmp 97) 88 rfl w.heap.size 70 i3 1 Tryd.underlying88 hi3 hs3 w.heap.size k 64 (wordCells (schedTo bs k)) rfl (owns_below HO3.out D1.out) ⟨v3.heap.size, 0, none⟩ 1 1 [.int .u32 (wn (((u0 + T1) + (u2)) + (T2)))] rfl rfl (news_cells N1.out) (wn_one _) (by omega) (d := 98) rfl ?_
          intro w2 hown hgrow
          have HO1 := owns_below HO3.out D1.out
          have HL2 : Hid (Below w.heap.size w w2) := (HL3.out.trans (D1.out.mono HL3.out.size)).trans (below_of_grown hgrow (fun z hz => by cases hz; exact Nat.le_refl _) (by have := HL3.out.size; have := D1.out.size; omega))
          have HO2 : Hid (w2.ownsRow w.heap.size 70 1 (.slice (some ⟨w.heap.size, 0, none⟩) (k + 1) 64) (k + 1) (wordCells (schedTo bs (k + 1)))) := by show World.ownsRow _ _ _ _ _ _ _; rw [HS.out, wordCells_append]; exact hown
          have z0 : w2.cell? ⟨w.heap.size, q0, none⟩ = some (.int .u32 (wn u0)) := by rw [← K0.out]; exact row_word hown (by rw [schedTo_len]; exact p0)
          have z2 : w2.cell? ⟨w.heap.size, q2, none⟩ = some (.int .u32 (wn u2)) := by rw [← K2.out]; exact row_word hown (by rw [schedTo_len]; exact p2)
          clear hown hgrow HO1
          refine hK.out _ _ ?_ (fun hHeld => ?_)
          · (first | go_keep | ((try dsimp only); go_keep))
          clear hK K
          simp only [Act.put, List.setIfInBounds_toArray, List.set_cons_zero, List.set_cons_succ]
          refine wpAnyH_takeD (i := 18) (d := 3) (v := .slice (some ⟨w.heap.size, 0, none⟩) (k + 1) 64) rfl (by kernel_rfl) (by kernel_rfl) (by kernel_rfl) (fun _ _ _ h => h) (Or.inl ⟨by rfl, by intro w hSw; (try dsimp only at hSw); go_simp⟩) (by assumption) rfl ?_
          simp only [Act.put, List.setIfInBounds_toArray, List.set_cons_zero, List.set_cons_succ]
          refine wpAnyH_done (by kernel_rfl) ?_ _
          go_wp2
          go_roundw
          case rel => exact ⟨k + 1, by omega, by omega, by go_num, rfl, HO2.out, HL2.out⟩
          case measure => simp [intOf]; omega
        · have hke : k = 64 := by omega
          subst hke
          go_wp2
          go_ret
          exact ⟨_, rfl, HO.out, HL.out⟩
end Go.Proofs.YtdjpeickokoclaaDoor
/-
  What each round puts to a sum beside the block: spec.l6Consts.
-/
namespace Go.Proofs.YtdjpeickokoclaaDoor
open Go.RowKit
set_option linter.unusedVariables false
/-- The numbers of the rounds. -/
def kTab : List Wd := [1116352408#32, 1899447441#32, 3049323471#32, 3921009573#32, 961987163#32, 1508970993#32, 2453635748#32, 2870763221#32, 3624381080#32, 310598401#32, 607225278#32, 1426881987#32, 1925078388#32, 2162078206#32, 2614888103#32, 3248222580#32, 3835390401#32, 4022224774#32, 264347078#32, 604807628#32, 770255983#32, 1249150122#32, 1555081692#32, 1996064986#32, 2554220882#32, 2821834349#32, 2952996808#32, 3210313671#32, 3336571891#32, 3584528711#32, 113926993#32, 338241895#32, 666307205#32, 773529912#32, 1294757372#32, 1396182291#32, 1695183700#32, 1986661051#32, 2177026350#32, 2456956037#32, 2730485921#32, 2820302411#32, 3259730800#32, 3345764771#32, 3516065817#32, 3600352804#32, 4094571909#32, 275423344#32, 430227734#32, 506948616#32, 659060556#32, 883997877#32, 958139571#32, 1322822218#32, 1537002063#32, 1747873779#32, 1955562222#32, 2024104815#32, 2227730452#32, 2361852424#32, 2428436474#32, 2756734187#32, 3204031479#32, 3329325298#32]
def kC : Array Value := #[.int .u32 1116352408, .int .u32 1899447441, .int .u32 3049323471, .int .u32 3921009573, .int .u32 961987163, .int .u32 1508970993, .int .u32 2453635748, .int .u32 2870763221, .int .u32 3624381080, .int .u32 310598401, .int .u32 607225278, .int .u32 1426881987, .int .u32 1925078388, .int .u32 2162078206, .int .u32 2614888103, .int .u32 3248222580, .int .u32 3835390401, .int .u32 4022224774, .int .u32 264347078, .int .u32 604807628, .int .u32 770255983, .int .u32 1249150122, .int .u32 1555081692, .int .u32 1996064986, .int .u32 2554220882, .int .u32 2821834349, .int .u32 2952996808, .int .u32 3210313671, .int .u32 3336571891, .int .u32 3584528711, .int .u32 113926993, .int .u32 338241895, .int .u32 666307205, .int .u32 773529912, .int .u32 1294757372, .int .u32 1396182291, .int .u32 1695183700, .int .u32 1986661051, .int .u32 2177026350, .int .u32 2456956037, .int .u32 2730485921, .int .u32 2820302411, .int .u32 3259730800, .int .u32 3345764771, .int .u32 3516065817, .int .u32 3600352804, .int .u32 4094571909, .int .u32 275423344, .int .u32 430227734, .int .u32 506948616, .int .u32 659060556, .int .u32 883997877, .int .u32 958139571, .int .u32 1322822218, .int .u32 1537002063, .int .u32 1747873779, .int .u32 1955562222, .int .u32 2024104815, .int .u32 2227730452, .int .u32 2361852424, .int .u32 2428436474, .int .u32 2756734187, .int .u32 3204031479, .int .u32 3329325298]
def kAt (i : Nat) : Wd := wAt kTab i
theorem kC_cells : kC.toList = wordCells kTab := by rfl
theorem kC_at {i : Nat} (h : i < 64) : kC[i]? = some (.int .u32 (wn (kAt i))) := by
  have hl : i < kTab.length := h
  rw [← Array.getElem?_toList, kC_cells]
  unfold wordCells kAt wAt
  rw [List.getElem?_map, List.getElem?_eq_getElem hl, List.getD_eq_getElem?_getD, List.getElem?_eq_getElem hl]
  rfl
set_option maxHeartbeats 2000000 in
theorem l6Consts_any (w : World) : Calls Tryd.prog 62 #[] w fun e w' => e = .returned (.slice (some ⟨w.heap.size, 0, none⟩) 64 64) ∧ (∀ i, i < 64 → w'.cell? ⟨w.heap.size, i, none⟩ = some (.int .u32 (wn (kAt i)))) ∧ w.heap.size < w'.heap.size ∧ Below w.heap.size w w' := by
  obtain ⟨w0, hw0⟩ : ∃ x, w.alloc (.cells kC 70) = x := ⟨_, rfl⟩
  have N0 : w0.heap[w.heap.size]? = some (.cells kC 70 (0, 0)) := by rw [← hw0]; exact heap_alloc_last w _
  have HC : Hid (∀ i, i < 64 → w0.cell? ⟨w.heap.size, i, none⟩ = some (.int .u32 (wn (kAt i)))) := fun i hi => by rw [cell_of_row w0 w.heap.size i _ _ _ N0]; exact kC_at hi
  have HB : Hid (Below w.heap.size w w0) := by show Below _ _ _; rw [← hw0]; exact (Below.refl _ _).alloc (Nat.le_refl _) _
  have HZ : Hid (w.heap.size < w0.heap.size) := by show _ < _; rw [← hw0]; simp
  have HW : Hid (w.alloc (.cells kC 70) = w0) := hw0
  clear N0 hw0
  go_enter Tryd.func62, Tryd.ntmps62
  go_wp2
  go_ret
  refine ⟨rfl, ?_⟩
  have e := HW.out
  unfold kC at e
  rw [e]
  exact ⟨HC.out, HZ.out, HB.out⟩
end Go.Proofs.YtdjpeickokoclaaDoor
/-
  A block put into a sum: spec.l6Block.
-/
namespace Go.Proofs.YtdjpeickokoclaaDoor
open Go.RowKit
set_option linter.unusedVariables false
/-- All blocks that were there but one stand as they stood. -/
structure ButAt (G : Nat) (w w' : World) : Prop where
  size : w.heap.size ≤ w'.heap.size
  block : ∀ b, b < w.heap.size → b ≠ G → w'.heap[b]? = w.heap[b]?
theorem ButAt.refl (G : Nat) (w : World) : ButAt G w w := ⟨Nat.le_refl _, fun _ _ _ => rfl⟩
theorem ButAt.trans {G : Nat} {u v w : World} (h : ButAt G u v) (k : ButAt G v w) : ButAt G u w :=
  ⟨Nat.le_trans h.size k.size, fun b hb hn => (k.block b (Nat.lt_of_lt_of_le hb h.size) hn).trans (h.block b hb hn)⟩
theorem ButAt.of_below {G : Nat} {w w' : World} (h : Below w.heap.size w w') : ButAt G w w' := ⟨h.size, fun b hb _ => h.block b hb⟩
theorem ButAt.set {G : Nat} {w w' : World} (h : ButAt G w w') (i : Nat) (v : Value) : ButAt G w (w'.setCell ⟨G, i, none⟩ v) :=
  ⟨by rw [World.size_setCell]; exact h.size, fun b hb hn => by rw [Below.heap_setCell _ _ _ _ (by simpa using hn)]; exact h.block b hb hn⟩
theorem ButAt.cell {G : Nat} {w w' : World} (h : ButAt G w w') {b i : Nat} (hb : b < w.heap.size) (hn : b ≠ G) : w'.cell? ⟨b, i, none⟩ = w.cell? ⟨b, i, none⟩ := World.cell?_of_block (h.block b hb hn)
theorem rowIs_dn {w : World} {b : Nat} {t : TypeId} {n : Nat} {f : Nat → Value} (h : w.rowIs b t n f) (k : Nat) : (w.drewN k).rowIs b t n f := by
  obtain ⟨c, hc, r⟩ := h
  exact ⟨c, by rw [(below_dn (Below.refl _ _) k).block b (Array.getElem?_eq_some_iff.1 hc).1]; exact hc, r⟩
theorem bytesOf_len (v : Wds) : (bytesOf v).length = 8 := rfl
/-- The words of a row that one owns. -/
theorem row_of_owns {w : World} {lo : Nat} {v : Value} {l : List Wd} (h : w.ownsRow lo 70 1 v l.length (wordCells l)) (h0 : 0 < l.length) : ∃ g cap f, v = .slice (some ⟨g, 0, none⟩) l.length cap ∧ lo ≤ g ∧ g < w.heap.size ∧ l.length ≤ cap ∧ w.rowIs g 70 cap f ∧ ∀ j, j < l.length → f j = .int .u32 (wn (wAt l j)) := by
  rcases h.2 with ⟨_, h1⟩ | ⟨g, cap, cur, rfl, hbase, hb, h1, h2, h3, h4⟩
  · omega
  · refine ⟨g, cap, fun j => cur[j]?.getD (.bool false), rfl, hbase, (Array.getElem?_eq_some_iff.1 hb).1, h1, ⟨cur, hb, by simpa using h3, fun i hi => by
      have hi2 : i < cur.size := by rw [h3]; simpa using hi
      simp [hi2]⟩, fun j hj => ?_⟩
    have e1 : (wordCells l)[j]? = some (.int .u32 (wn (wAt l j))) := by
      unfold wordCells wAt
      rw [List.getElem?_map, List.getElem?_eq_getElem hj, List.getD_eq_getElem?_getD, List.getElem?_eq_getElem hj]
      rfl
    rw [← h4, List.getElem?_take_of_lt (by omega), Array.getElem?_toList] at e1
    show cur[j]?.getD (.bool false) = _
    rw [e1]
    rfl
set_option maxHeartbeats 1000000 in
theorem turn_drew (a : Wd) (n : Nat) (h : 1 ≤ n) (h' : n ≤ 31) (w : World) :
    Calls Tryd.prog 63 #[.int .u32 (wn a), .int .i64 (n : Int)] w fun e w' => e = .returned (.int .u32 (wn (ror a n))) ∧ ∃ m, w' = w.drewN m := by
  obtain ⟨m, hm⟩ : ∃ m, 32 - n = m := ⟨_, rfl⟩
  have hm1 : (32 : Int) - (n : Int) = (m : Int) := by omega
  have hm0 : (0 : Int) ≤ (m : Int) := by omega
  have hm2 : (m : Int) ≤ 32 := by omega
  have hn0 : (0 : Int) ≤ (n : Int) := by omega
  have hn2 : (n : Int) ≤ 32 := by omega
  have h3 := wn_shl a m
  have h4 := wn_shr a n
  have h5 := wn_or (a >>> n) (a <<< m)
  have H6 : Hid (((a >>> n) ||| (a <<< m)) = ror a n) := by show _ = _; unfold ror; rw [hm]
  clear hm
  go_enter Tryd.func63, Tryd.ntmps63
  go_wp2_with fail
  go_quiet (fail)
  go_wp2
  go_ret
  exact ⟨by rw [← H6.out]; rfl, _, rfl⟩
/-- A round's words, as the specification sums them. -/
theorem stir_spec (a b c d e f g h k w : Wd) : bytesOf (stirT ⟨a, b, c, d, e, f, g, h⟩ (k + w)) =
    [h + (ror e 6 ^^^ ror e 11 ^^^ ror e 25) + ((e &&& f) ^^^ (~~~e &&& g)) + k + w + (ror a 2 ^^^ ror a 13 ^^^ ror a 22) + ((a &&& b) ^^^ (a &&& c) ^^^ (b &&& c)), a, b, c,
      d + (h + (ror e 6 ^^^ ror e 11 ^^^ ror e 25) + ((e &&& f) ^^^ (~~~e &&& g)) + k + w), e, f, g] := by
  have h1 : oneT ⟨a, b, c, d, e, f, g, h⟩ (k + w) = h + (ror e 6 ^^^ ror e 11 ^^^ ror e 25) + ((e &&& f) ^^^ (~~~e &&& g)) + k + w := by
    unfold oneT
    dsimp only
    generalize (ror e 6 ^^^ ror e 11 ^^^ ror e 25) = x
    generalize ((e &&& f) ^^^ (~~~e &&& g)) = y
    ac_rfl
  unfold bytesOf stirT
  dsimp only
  rw [h1]
  unfold twoT
  dsimp only
  rw [BitVec.add_assoc _ (ror a 2 ^^^ ror a 13 ^^^ ror a 22)]
end Go.Proofs.YtdjpeickokoclaaDoor
/-
  A block put into a sum: spec.l6Block, its walk.
-/
namespace Go.Proofs.YtdjpeickokoclaaDoor
open Go.RowKit
set_option linter.unusedVariables false
theorem Tryd.info_u32b : (Tryd.prog.info? 70).map (fun i => (i.zero, i.size, i.bytes)) = some (some (.int .u32 0), 1, 4) := by kernel_rfl
theorem wordCells_one (l : List Wd) : ∀ u ∈ wordCells l, u.oneCell' = true := by
  intro u hu
  simp only [wordCells, List.mem_map] at hu
  obtain ⟨a, _, rfl⟩ := hu
  rfl
theorem news_words {W : World} {b n : Nat} {l : List Wd} (h : ∀ j, j < n → W.cell? ⟨b, j, none⟩ = some (.int .u32 (wn (wAt l j)))) (hl : l.length = n) : ∀ j u, (wordCells l)[j]? = some u → W.cell? ((⟨b, 0, none⟩ : Addr).add j) = some u := by
  intro j u hu
  have hj : j < l.length := by have := (List.getElem?_eq_some_iff.1 hu).1; simpa [wordCells] using this
  have hadd : (⟨b, 0, none⟩ : Addr).add j = ⟨b, j, none⟩ := by unfold Addr.add; split <;> simp_all
  rw [hadd, h j (by omega), ← hu]
  unfold wordCells wAt
  rw [List.getElem?_map, List.getElem?_eq_getElem hj, List.getD_eq_getElem?_getD, List.getElem?_eq_getElem hj]
  rfl
theorem step_append_ownd {P : Program} {w : World} {ops : Array Oper} {o : Oper} {a : Act} {K : Act → World → Prop} {Q : Exit → Act → World → Prop} {E : Prop} (hgd : o.guard = none) (s x : Operand) (t : TypeId)
    (ho : o.op = .call { callee := .builtin .append, args := #[s, x], argTypes := #[t, t] })
    (base : Nat) (e : TypeId) (i : TypeInfo) (z : Value) (size bytes : Nat) (ht : P.underlying t = some (.slice e)) (hi : P.info? e = some i) (hz : i.zero = some z)
    (hsize : i.size = size) (hby : i.bytes = bytes) (hzs : z.cells.size = size) (hsz : 0 < size)
    (v : Value) (n : Nat) (xs : List Value) (hs : a.eval s = v) (hown : w.ownsRow base e size v n xs)
    (ad : Addr) (m c : Nat) (news : List Value) (hx : a.eval x = .slice (some ad) m c) (hl : news.length = m * size) (hnews : ∀ j u, news[j]? = some u → w.cell? (ad.add j) = some u) (h1 : ∀ u ∈ news, u.oneCell' = true)
    (h63 : n + m ≤ maxLen) (hbytes : (n + m) * bytes ≤ 140737488355328) (hbase : base ≤ w.heap.size)
    {d : Nat} (hd : o.dst = some d) (h : ∀ v' w', w'.ownsRow base e size v' (n + m) (xs ++ news) → w.grownBy w' v.ownBlock → (v' = .slice none 0 0 ↔ v = .slice none 0 0 ∧ m = 0) → K (a.put (some d) v') w') :
    if Region.wanted o (yielded ops a.tmps) = true then Oper.wp P o a w K Q else E :=
  step_append_own hgd s x t ho base e i z size bytes ht hi hz hsize hby hzs hsz v n xs hs hown ad m c news hx hl hnews h1 h63 hbytes hbase (by rw [hd]; exact h)
theorem owns_down {w : World} {lo lo' : Nat} {e : TypeId} {size k : Nat} {v : Value} {xs : List Value} (h : w.ownsRow lo e size v k xs) (hl : lo' ≤ lo) : w.ownsRow lo' e size v k xs := by
  refine ⟨h.1, ?_⟩
  rcases h.2 with h0 | ⟨g, cap, cur, hv, hb, r⟩
  · exact .inl h0
  · exact .inr ⟨g, cap, cur, hv, Nat.le_trans hl hb, r⟩
theorem rounds_next {bs : List UInt8} {v : Wds} {k : Nat} {a b c d e f g h x y : Wd} (hV : roundsT kAt bs v k = ⟨a, b, c, d, e, f, g, h⟩) (hx : kAt k = x) (hy : wAt (schedTo bs 64) k = y) : bytesOf (roundsT kAt bs v (k + 1)) =
    [h + (ror e 6 ^^^ ror e 11 ^^^ ror e 25) + ((e &&& f) ^^^ (~~~e &&& g)) + x + y + (ror a 2 ^^^ ror a 13 ^^^ ror a 22) + ((a &&& b) ^^^ (a &&& c) ^^^ (b &&& c)), a, b, c,
      d + (h + (ror e 6 ^^^ ror e 11 ^^^ ror e 25) + ((e &&& f) ^^^ (~~~e &&& g)) + x + y), e, f, g] := by
  rw [roundsT, hV, hx, hy]
  exact stir_spec a b c d e f g h x y
set_option maxRecDepth 100000 in
set_option maxHeartbeats 8000000 in
theorem l6Block_any (w : World) (H capH B o capB : Nat) (v : Wds) (bs : List UInt8) (hH : ∀ j, j < 8 → w.cell? ⟨H, j, none⟩ = some (.int .u32 (wn (wAt (bytesOf v) j)))) (hHl : H < w.heap.size) (hcH : 8 ≤ capH) (h : BytesAt w B o bs) (hb : bs.length = 64) (hcap : 64 ≤ capB) :
    Calls Tryd.prog 54 #[.slice (some ⟨H, 0, none⟩) 8 capH, .slice (some ⟨B, o, none⟩) 64 capB] w fun e w' => ∃ v', e = .returned v' ∧ w'.ownsRow w.heap.size 70 1 v' 8 (wordCells (bytesOf (mixT kAt v bs))) ∧ Below w.heap.size w w' := by
  have HH : Hid (∀ j, j < 8 → w.cell? ⟨H, j, none⟩ = some (.int .u32 (wn (wAt (bytesOf v) j)))) := hH
  have HB : Hid (BytesAt w B o bs) := h
  clear h hH
  obtain ⟨i3, hi3, hz3, hs3, hb3⟩ := info_parts Tryd.info_u32b
  have hr5 := wn_and
  have hr6 := wn_xor
  have hr7 := wn_add
  have hr8 : ∀ a : Wd, bits .xor .u32 (if IntKind.u32.signed = true then -1 else IntKind.u32.max) (wn a) = wn (~~~a) := fun a => wn_not a
  go_enter Tryd.func54, Tryd.ntmps54
  go_wp2_with (go_at_call 61; refine (l6Words_any _ B o capB bs HB.out hb hcap).mono ?_)
  rintro e w1 ⟨v1, rfl, ho1, hb1⟩
  obtain ⟨GW, capW, fW, rfl, hW1, hW2, hW3, hW4, hW5⟩ := row_of_owns (l := schedTo bs 64) (by rw [schedTo_len]; exact ho1) (by rw [schedTo_len]; omega)
  have HW : Hid (∀ j, j < 64 → w1.cell? ⟨GW, j, none⟩ = some (.int .u32 (wn (wAt (schedTo bs 64) j)))) := fun j hj => by rw [hW4.cell (by rw [schedTo_len] at hW3; omega), hW5 j (by rw [schedTo_len]; exact hj)]
  have HL1 : Hid (Below w.heap.size w w1) := hb1
  have hz1 : w.heap.size ≤ w1.heap.size := hb1.size
  rw [schedTo_len] at hW3 ⊢
  clear ho1 hb1 hW4 hW5
  go_wp2_with (go_at_call 62; refine (l6Consts_any _).mono ?_)
  rintro e w2 ⟨rfl, hk2, hz2, hb2⟩
  obtain ⟨GK, hGK⟩ : ∃ x, w1.heap.size = x := ⟨_, rfl⟩
  rw [hGK] at hk2 hz2 ⊢
  have HK : Hid (∀ j, j < 64 → w2.cell? ⟨GK, j, none⟩ = some (.int .u32 (wn (kAt j)))) := hk2
  have HW2 : Hid (∀ j, j < 64 → w2.cell? ⟨GW, j, none⟩ = some (.int .u32 (wn (wAt (schedTo bs 64) j)))) := fun j hj => (hb2.cell (p := ⟨GW, j, none⟩) hW2).trans (HW.out j hj)
  have HL2 : Hid (Below w.heap.size w w2) := HL1.out.trans (hb2.mono hz1)
  have HH2 : Hid (∀ j, j < 8 → w2.cell? ⟨H, j, none⟩ = some (.int .u32 (wn (wAt (bytesOf v) j)))) := fun j hj => (HL2.out.cell (p := ⟨H, j, none⟩) hHl).trans (HH.out j hj)
  have hWz : GW < w2.heap.size := by omega
  have hHz : H < w2.heap.size := by omega
  have hz3' : w.heap.size ≤ w2.heap.size := by omega
  clear hk2 HW HL1 HB hb2 hGK hW2 hz1 HH
  have HH3 : Hid (∀ j, j < 8 → (w2.alloc (.cells #[] 70)).cell? ⟨H, j, none⟩ = some (.int .u32 (wn (wAt (bytesOf v) j)))) := fun j hj => (((Below.refl w2.heap.size w2).alloc (Nat.le_refl _) _).cell (p := ⟨H, j, none⟩) hHz).trans (HH2.out j hj)
  obtain ⟨cH, hcH'⟩ : ∃ x, wordCells (bytesOf v) = x := ⟨_, rfl⟩
  have NW : Hid (∀ j u, cH[j]? = some u → (w2.alloc (.cells #[] 70)).cell? ((⟨H, 0, none⟩ : Addr).add j) = some u) := by rw [← hcH']; exact news_words HH3.out rfl
  have LW : Hid (cH.length = 8) := by show _ = _; rw [← hcH']; rfl
  have OW : Hid (∀ u ∈ cH, u.oneCell' = true) := by rw [← hcH']; exact wordCells_one _
  go_wp2_with (at_builtin; refine wpList_append_own _ rfl _ _ 88 rfl w2.heap.size 70 i3 (.int .u32 0) 1 4 Tryd.underlying88 hi3 hz3 hs3 hb3 rfl (by decide) (.slice (some ⟨w2.heap.size, 0, none⟩) 0 0) 0 [] rfl (own_of_block (heap_alloc_last _ _) (Nat.le_refl _)) ⟨H, 0, none⟩ 8 capH cH rfl LW.out NW.out OW.out (by unfold maxLen; omega) (by omega) (by simp <;> omega) ?_; intro v3 w3 hown hgrow hnil3)
  rw [Nat.zero_add, List.nil_append, ← hcH'] at hown
  obtain ⟨G, capG, f0, rfl, hG1, hG2, hG3, hG4, hG5⟩ := row_of_owns (l := bytesOf v) hown (Nat.zero_lt_succ 7)
  rw [bytesOf_len] at hG3 hG5 ⊢
  have HR3 : Hid (w3.rowIs G 70 capG f0) := hG4
  have HF3 : Hid (∀ j, j < 8 → f0 j = .int .u32 (wn (wAt (bytesOf v) j))) := hG5
  have HL3 : Hid (Below w2.heap.size w2 w3) := ((Below.refl w2.heap.size w2).alloc (Nat.le_refl _) _).grown hgrow (by simp <;> omega) (fun k hk => by cases hk; exact Nat.le_refl _)
  clear hown hgrow hnil3 hG4 hG5 hcH' LW NW OW HH3
  go_loopw [8] (fun i wr => ∃ (k : Nat) (f : Nat → Value), k ≤ 64 ∧ i = .int .i64 k ∧ wr.rowIs G 70 capG f ∧ (∀ j, j < 8 → f j = .int .u32 (wn (wAt (bytesOf (roundsT kAt bs v k)) j))) ∧ Below w2.heap.size w2 wr) (fun i _ => 64 - (intOf i).toNat)
  case atStart => exact ⟨0, f0, Nat.zero_le _, rfl, HR3.out, HF3.out, HL3.out⟩
  case round =>
    obtain ⟨k, f, hk, rfl, hrow, hf, hbl⟩ := hrel
    have HROW : Hid (wr.rowIs G 70 capG f) := hrow
    have HF : Hid (∀ j, j < 8 → f j = .int .u32 (wn (wAt (bytesOf (roundsT kAt bs v k)) j))) := hf
    have HL : Hid (Below w2.heap.size w2 wr) := hbl
    clear hrow hf hbl HR3 HF3 HL3
    obtain ⟨wq, hwq⟩ : ∃ x, x = wr := ⟨_, rfl⟩
    subst hwq
    by_cases hlt : k < 64
    · have hlt' : (k : Int) < 64 := by omega
      obtain ⟨V, hV⟩ : ∃ V, roundsT kAt bs v k = V := ⟨_, rfl⟩
      rw [hV] at HF
      obtain ⟨s0, s1, s2, s3, s4, s5, s6, s7⟩ := V
      obtain ⟨kk, hkk⟩ : ∃ x, kAt k = x := ⟨_, rfl⟩
      obtain ⟨ww, hww⟩ : ∃ x, wAt (schedTo bs 64) k = x := ⟨_, rfl⟩
      have HN : Hid (bytesOf (roundsT kAt bs v (k + 1)) = _) := rounds_next hV hkk hww
      have x0 : wq.cell? ⟨G, 0, none⟩ = some (.int .u32 (wn s0)) := by rw [HROW.out.cell (by omega), HF.out 0 (by omega)]; rfl
      have x1 : wq.cell? ⟨G, 1, none⟩ = some (.int .u32 (wn s1)) := by rw [HROW.out.cell (by omega), HF.out 1 (by omega)]; rfl
      have x2 : wq.cell? ⟨G, 2, none⟩ = some (.int .u32 (wn s2)) := by rw [HROW.out.cell (by omega), HF.out 2 (by omega)]; rfl
      have x4 : wq.cell? ⟨G, 4, none⟩ = some (.int .u32 (wn s4)) := by rw [HROW.out.cell (by omega), HF.out 4 (by omega)]; rfl
      have x5 : wq.cell? ⟨G, 5, none⟩ = some (.int .u32 (wn s5)) := by rw [HROW.out.cell (by omega), HF.out 5 (by omega)]; rfl
      have x6 : wq.cell? ⟨G, 6, none⟩ = some (.int .u32 (wn s6)) := by rw [HROW.out.cell (by omega), HF.out 6 (by omega)]; rfl
      have x7 : wq.cell? ⟨G, 7, none⟩ = some (.int .u32 (wn s7)) := by rw [HROW.out.cell (by omega), HF.out 7 (by omega)]; rfl
      have y1 : wq.cell? ⟨GK, k, none⟩ = some (.int .u32 (wn kk)) := by rw [← hkk]; exact (HL.out.cell (p := ⟨GK, k, none⟩) hz2).trans (HK.out k hlt)
      have y2 : wq.cell? ⟨GW, k, none⟩ = some (.int .u32 (wn ww)) := by rw [← hww]; exact (HL.out.cell (p := ⟨GW, k, none⟩) hWz).trans (HW2.out k hlt)
      clear hV hkk hww
      go_wp2_with fail
      go_quiet ((first | (go_at_call_of 63 (Value.int .i64 6); refine (turn_drew s4 6 (by omega) (by omega) _).mono ?_; rintro e w'' ⟨rfl, m, rfl⟩; exact ⟨rfl, _, World.drewN_drewN _ _ _⟩) | (go_at_call_of 63 (Value.int .i64 11); refine (turn_drew s4 11 (by omega) (by omega) _).mono ?_; rintro e w'' ⟨rfl, m, rfl⟩; exact ⟨rfl, _, World.drewN_drewN _ _ _⟩) | (go_at_call_of 63 (Value.int .i64 25); refine (turn_drew s4 25 (by omega) (by omega) _).mono ?_; rintro e w'' ⟨rfl, m, rfl⟩; exact ⟨rfl, _, World.drewN_drewN _ _ _⟩)))
      go_wp2_with fail
      go_quiet (fail)
      go_wp2_with fail
      go_quiet (fail)
      go_wp2_with fail
      go_quiet ((first | (go_at_call_of 63 (Value.int .i64 2); refine (turn_drew s0 2 (by omega) (by omega) _).mono ?_; rintro e w'' ⟨rfl, m, rfl⟩; exact ⟨rfl, _, (World.drewN_drewN _ _ _).trans (congrArg (World.drewN _) (Nat.add_assoc _ _ _))⟩) | (go_at_call_of 63 (Value.int .i64 13); refine (turn_drew s0 13 (by omega) (by omega) _).mono ?_; rintro e w'' ⟨rfl, m, rfl⟩; exact ⟨rfl, _, (World.drewN_drewN _ _ _).trans (congrArg (World.drewN _) (Nat.add_assoc _ _ _))⟩) | (go_at_call_of 63 (Value.int .i64 22); refine (turn_drew s0 22 (by omega) (by omega) _).mono ?_; rintro e w'' ⟨rfl, m, rfl⟩; exact ⟨rfl, _, (World.drewN_drewN _ _ _).trans (congrArg (World.drewN _) (Nat.add_assoc _ _ _))⟩)))
      go_wp2_with fail
      go_quiet (fail)
      clear x0 x1 x2 x4 x5 x6 x7 y1 y2
      go_wp2_with fail
      go_loopw [14] (fun i wr => ∃ (m : Nat) (g : Nat → Value), m ≤ 7 ∧ i = .int .i64 m ∧ wr.rowIs G 70 capG g ∧ (∀ j, j < 8 → g j = .int .u32 (wn (wAt (bytesOf ⟨s0, s1, s2, s3, s4, s5, s6, s7⟩) (if j ≤ m then j else j - 1)))) ∧ Below w2.heap.size w2 wr) (fun i _ => (intOf i).toNat)
      case atStart => exact ⟨7, f, Nat.le_refl _, rfl, rowIs_dn (rowIs_dn (rowIs_dn (rowIs_dn (rowIs_dn HROW.out _) _) _) _) _, fun j hj => by rw [if_pos (by omega)]; exact HF.out j hj, below_dn (below_dn (below_dn (below_dn (below_dn HL.out _) _) _) _) _⟩
      case round =>
        obtain ⟨m, g, hm, rfl, hrow, hg, hbl⟩ := hrel
        have HR2 : Hid (wr.rowIs G 70 capG g) := hrow
        have HG2 : Hid (∀ j, j < 8 → g j = .int .u32 (wn (wAt (bytesOf ⟨s0, s1, s2, s3, s4, s5, s6, s7⟩) (if j ≤ m then j else j - 1)))) := hg
        have HB2 : Hid (Below w2.heap.size w2 wr) := hbl
        clear hrow hg hbl HROW HF HL
        by_cases hm0 : m = 0
        · subst hm0
          have c4 : wr.cell? ⟨G, 4, none⟩ = some (.int .u32 (wn s3)) := by rw [HR2.out.cell (by omega), HG2.out 4 (by omega)]; rfl
          have c0 : wr.cell? ⟨G, 0, none⟩ = some (.int .u32 (wn s0)) := by rw [HR2.out.cell (by omega), HG2.out 0 (by omega)]; rfl
          have fz4 : wr.frozen? ⟨G, 4, none⟩ = false := HR2.out.frozen 4
          have fz0 : wr.frozen? ⟨G, 0, none⟩ = false := HR2.out.frozen 0
          go_wp2_with fail
          go_roundw
          case rel =>
            refine ⟨k + 1, _, by omega, by go_num, (HR2.out.set 4 _).set 0 _, fun j hj => ?_, (HB2.out.setCell (p := ⟨G, 4, none⟩) hG1 _).setCell (p := ⟨G, 0, none⟩) hG1 _⟩
            rw [HN.out]
            match j, hj with
            | 0, _ => rfl
            | 1, _ => exact HG2.out 1 (by omega)
            | 2, _ => exact HG2.out 2 (by omega)
            | 3, _ => exact HG2.out 3 (by omega)
            | 4, _ => rfl
            | 5, _ => exact HG2.out 5 (by omega)
            | 6, _ => exact HG2.out 6 (by omega)
            | 7, _ => exact HG2.out 7 (by omega)
          case measure => simp [intOf]; omega
        · obtain ⟨p, rfl⟩ : ∃ p, m = p + 1 := ⟨m - 1, by omega⟩
          obtain ⟨m, hmm⟩ : ∃ m, p + 1 = m := ⟨_, rfl⟩
          rw [hmm] at HG2 ⊢
          have e1 : (m : Int) - 1 = (p : Int) := by omega
          have e2 : IntKind.i64.wrap ((m : Int) - 1) = (p : Int) := by rw [e1]; exact IntWalk.i64_in _ (by omega)
          have e3 : (0 : Int) < (m : Int) := by omega
          have e4 : (m : Int) < 8 := by omega
          have e5 : (p : Int) < 8 := by omega
          have e6 : IntKind.i64.wrap (p : Int) = (p : Int) := IntWalk.i64_in _ (by omega)
          have e7 : p < 8 := by omega
          have e8 : m < 8 := by omega
          have e9 : 0 < m := by omega
          obtain ⟨u, hu⟩ : ∃ u, wAt (bytesOf ⟨s0, s1, s2, s3, s4, s5, s6, s7⟩) p = u := ⟨_, rfl⟩
          have cp : wr.cell? ⟨G, p, none⟩ = some (.int .u32 (wn u)) := by rw [HR2.out.cell (by omega), HG2.out p (by omega), if_pos (by omega), hu]
          have cm : wr.cell? ⟨G, m, none⟩ = some (g m) := HR2.out.cell (by omega)
          have fm : wr.frozen? ⟨G, m, none⟩ = false := HR2.out.frozen m
          have HU : Hid (wAt (bytesOf ⟨s0, s1, s2, s3, s4, s5, s6, s7⟩) p = u) := hu
          clear hu hmm
          go_wp2_with fail
          go_roundw
          case rel =>
            refine ⟨p, _, by omega, by go_num, HR2.out.set m _, fun j hj => ?_, HB2.out.setCell (p := ⟨G, m, none⟩) hG1 _⟩
            by_cases e : j = m
            · rw [if_pos e, if_neg (by omega), show j - 1 = p by omega, HU.out]
            · rw [if_neg e, HG2.out j hj]
              by_cases e' : j ≤ p
              · rw [if_pos e', if_pos (by omega)]
              · rw [if_neg e', if_neg (by omega)]
          case measure => simp [intOf]; omega
    · have hke : k = 64 := by omega
      have hkn : ¬ ((k : Int) < 64) := by omega
      obtain ⟨V, hV⟩ : ∃ V, roundsT kAt bs v 64 = V := ⟨_, rfl⟩
      rw [hke, hV] at HF
      clear hke
      have HM : Hid (mixT kAt v bs = addW v V) := by show _ = _; unfold mixT; rw [hV]
      have hGz : G < wq.heap.size := by obtain ⟨c, hc, _⟩ := HROW.out; exact (Array.getElem?_eq_some_iff.1 hc).1
      have hHq : H < wq.heap.size := Nat.lt_of_lt_of_le hHz HL.out.size
      have hwq : w.heap.size ≤ wq.heap.size := Nat.le_trans hz3' HL.out.size
      have HA : Hid (∀ j, j < 8 → wq.cell? ⟨H, j, none⟩ = some (.int .u32 (wn (wAt (bytesOf v) j)))) := fun j hj => (HL.out.cell (p := ⟨H, j, none⟩) hHz).trans (HH2.out j hj)
      have HBB : Hid (∀ j, j < 8 → wq.cell? ⟨G, j, none⟩ = some (.int .u32 (wn (wAt (bytesOf V) j)))) := fun j hj => by rw [HROW.out.cell (by omega), HF.out j hj]
      have HLW : Hid (Below w.heap.size w wq) := HL2.out.trans (HL.out.mono hz3')
      have HE : Hid ((wq.alloc (.cells #[] 70)).ownsRow wq.heap.size 70 1 (.slice (some ⟨wq.heap.size, 0, none⟩) 0 0) 0 []) := own_of_block (heap_alloc_last _ _) (Nat.le_refl _)
      have HE2 : Hid (Below wq.heap.size wq (wq.alloc (.cells #[] 70))) := (Below.refl _ _).alloc (Nat.le_refl _) _
      clear HROW HF HL hV
      go_wp2_with fail
      go_loopw [15, 16] (fun x i wr => ∃ (q : Nat), q ≤ 8 ∧ i = .int .i64 q ∧ wr.ownsRow wq.heap.size 70 1 x q (wordCells ((bytesOf (addW v V)).take q)) ∧ Below wq.heap.size wq wr) (fun _ i _ => 8 - (intOf i).toNat)
      case atStart => exact ⟨0, Nat.zero_le _, rfl, HE.out, HE2.out⟩
      case round =>
        clear HE HE2
        obtain ⟨q, hq, rfl, ho, hbl⟩ := hrel
        have HO : Hid (wr.ownsRow wq.heap.size 70 1 u15 q (wordCells ((bytesOf (addW v V)).take q))) := ho
        have HQ : Hid (Below wq.heap.size wq wr) := hbl
        clear ho hbl
        by_cases hq8 : q < 8
        · have l0 : (q : Int) < 8 := by omega
          obtain ⟨a, ha⟩ : ∃ a, wAt (bytesOf v) q = a := ⟨_, rfl⟩
          obtain ⟨b, hb'⟩ : ∃ b, wAt (bytesOf V) q = b := ⟨_, rfl⟩
          have HS : Hid ((bytesOf (addW v V)).take (q + 1) = (bytesOf (addW v V)).take q ++ [a + b]) := by
            show _ = _
            rw [← ha, ← hb']
            match q, hq8 with
            | 0, _ => rfl
            | 1, _ => rfl
            | 2, _ => rfl
            | 3, _ => rfl
            | 4, _ => rfl
            | 5, _ => rfl
            | 6, _ => rfl
            | 7, _ => rfl
          have x0 : wr.cell? ⟨H, q, none⟩ = some (.int .u32 (wn a)) := by rw [← ha]; exact (HQ.out.cell (p := ⟨H, q, none⟩) hHq).trans (HA.out q hq8)
          have x1 : wr.cell? ⟨G, q, none⟩ = some (.int .u32 (wn b)) := by rw [← hb']; exact (HQ.out.cell (p := ⟨G, q, none⟩) hGz).trans (HBB.out q hq8)
          clear ha hb'
          go_wp2_with fail
          refine wp_region_held_drew (S := (fun w' => w'.cell? ⟨H, q, none⟩ = some (.int .u32 (wn a)) ∧ w'.cell? ⟨G, q, none⟩ = some (.int .u32 (wn b)))) (by kernel_rfl) ?_ (fun hHeld => ?_)
          · (first | go_keep | ((try dsimp only); go_keep))
          refine wpAnyH_takeD (i := 0) (d := 142) (v := u15) rfl (by kernel_rfl) (by kernel_rfl) (by kernel_rfl) (fun _ _ _ h => h) (Or.inl ⟨by rfl, by intro w hSw; (try dsimp only at hSw); go_simp⟩) (by assumption) rfl ?_
          simp only [Act.put, List.setIfInBounds_toArray, List.set_cons_zero, List.set_cons_succ]
          refine wpAnyH_takeD (i := 1) (d := 143) (v := .slice (some ⟨H, 0, none⟩) 8 capH) rfl (by kernel_rfl) (by kernel_rfl) (by kernel_rfl) (fun _ _ _ h => h) (Or.inl ⟨by rfl, by intro w hSw; (try dsimp only at hSw); go_simp⟩) (by assumption) rfl ?_
          simp only [Act.put, List.setIfInBounds_toArray, List.set_cons_zero, List.set_cons_succ]
          refine wpAnyH_takeD (i := 2) (d := 144) (v := .int .i64 (q : Int)) rfl (by kernel_rfl) (by kernel_rfl) (by kernel_rfl) (fun _ _ _ h => h) (Or.inl ⟨by rfl, by intro w hSw; (try dsimp only at hSw); go_simp⟩) (by assumption) rfl ?_
          simp only [Act.put, List.setIfInBounds_toArray, List.set_cons_zero, List.set_cons_succ]
          refine wpAnyH_takeD (i := 3) (d := 145) (v := .pointer (some ⟨H, q, none⟩)) rfl (by kernel_rfl) (by kernel_rfl) (by kernel_rfl) (fun _ _ _ h => h) (Or.inl ⟨by rfl, by intro w hSw; (try dsimp only at hSw); go_simp⟩) (by assumption) rfl ?_
          simp only [Act.put, List.setIfInBounds_toArray, List.set_cons_zero, List.set_cons_succ]
          refine wpAnyH_takeD (i := 4) (d := 146) (v := .int .u32 (wn a)) rfl (by kernel_rfl) (by kernel_rfl) (by kernel_rfl) (fun _ _ _ h => h) (Or.inl ⟨by rfl, by intro w hSw; (try dsimp only at hSw); go_simp⟩) (by assumption) rfl ?_
          simp only [Act.put, List.setIfInBounds_toArray, List.set_cons_zero, List.set_cons_succ]
          refine wpAnyH_takeD (i := 5) (d := 147) (v := .slice (some ⟨G, 0, none⟩) 8 capG) rfl (by kernel_rfl) (by kernel_rfl) (by kernel_rfl) (fun _ _ _ h => h) (Or.inl ⟨by rfl, by intro w hSw; (try dsimp only at hSw); go_simp⟩) (by assumption) rfl ?_
          simp only [Act.put, List.setIfInBounds_toArray, List.set_cons_zero, List.set_cons_succ]
          refine wpAnyH_takeD (i := 6) (d := 148) (v := .int .i64 (q : Int)) rfl (by kernel_rfl) (by kernel_rfl) (by kernel_rfl) (fun _ _ _ h => h) (Or.inl ⟨by rfl, by intro w hSw; (try dsimp only at hSw); go_simp⟩) (by assumption) rfl ?_
          simp only [Act.put, List.setIfInBounds_toArray, List.set_cons_zero, List.set_cons_succ]
          refine wpAnyH_takeD (i := 7) (d := 149) (v := .pointer (some ⟨G, q, none⟩)) rfl (by kernel_rfl) (by kernel_rfl) (by kernel_rfl) (fun _ _ _ h => h) (Or.inl ⟨by rfl, by intro w hSw; (try dsimp only at hSw); go_simp⟩) (by assumption) rfl ?_
          simp only [Act.put, List.setIfInBounds_toArray, List.set_cons_zero, List.set_cons_succ]
          refine wpAnyH_takeD (i := 8) (d := 150) (v := .int .u32 (wn b)) rfl (by kernel_rfl) (by kernel_rfl) (by kernel_rfl) (fun _ _ _ h => h) (Or.inl ⟨by rfl, by intro w hSw; (try dsimp only at hSw); go_simp⟩) (by assumption) rfl ?_
          simp only [Act.put, List.setIfInBounds_toArray, List.set_cons_zero, List.set_cons_succ]
          refine wpAnyH_takeD (i := 9) (d := 151) (v := .int .u32 (wn (a + b))) rfl (by kernel_rfl) (by kernel_rfl) (by kernel_rfl) (fun _ _ _ h => h) (Or.inl ⟨by rfl, by intro w hSw; (try dsimp only at hSw); go_simp⟩) (by assumption) rfl ?_
          simp only [Act.put, List.setIfInBounds_toArray, List.set_cons_zero, List.set_cons_succ]
          refine wpAnyH_ready (rs := [10]) (by kernel_rfl) (by simp) ?_
          refine AllReadyH.cons rfl (fun K hK => ?_) AllReadyH.nil
          go_simp
          obtain ⟨w5, hw5⟩ : ∃ x, (World.drew wr).alloc (.cells #[.int .u32 (wn (a + b))] 70) = x := ⟨_, rfl⟩
          have D1 : Hid (Below wr.heap.size wr w5) := by rw [← hw5]; exact (Below.refl _ wr).drew.alloc (Nat.le_refl _) _
          have N1 : Hid (w5.heap[wr.heap.size]? = some (.cells #[.int .u32 (wn (a + b))] 70 (0, 0))) := by show _ = _; rw [← hw5]; exact heap_alloc_last (World.drew wr) _
          have D2 : Hid (Below wq.heap.size wq w5) := HQ.out.trans (D1.out.mono HQ.out.size)
          have y0 : w5.cell? ⟨H, q, none⟩ = some (.int .u32 (wn a)) := (D1.out.cell (p := ⟨H, q, none⟩) (Nat.lt_of_lt_of_le hHq HQ.out.size)).trans x0
          have y1 : w5.cell? ⟨G, q, none⟩ = some (.int .u32 (wn b)) := (D1.out.cell (p := ⟨G, q, none⟩) (Nat.lt_of_lt_of_le hGz HQ.out.size)).trans x1
          have hdr : (World.alloc wr (.cells #[.int .u32 (wn (a + b))] 70)).drew = w5 := by rw [← hw5]; rfl
          first | rw [hdr] | rw [hw5]
          clear hw5 hdr
          refine hK.out _ _ ?_ (fun hHeld => ?_)
          · (first | go_keep | ((try dsimp only); go_keep))
          clear hK K
          try simp only [Act.put, List.setIfInBounds_toArray, List.set_cons_zero, List.set_cons_succ]
          refine wpAnyH_ready (rs := [11]) (by kernel_rfl) (by simp) ?_
          refine AllReadyH.cons rfl (fun K hK => ?_) AllReadyH.nil
          refine step_append_ownd rfl (.tmp 142) (.tmp 152) 88 rfl wq.heap.size 70 i3 (.int .u32 0) 1 4 Tryd.underlying88 hi3 hz3 hs3 hb3 rfl (by decide) u15 q (wordCells ((bytesOf (addW v V)).take q)) rfl (owns_below HO.out D1.out) ⟨wr.heap.size, 0, none⟩ 1 1 [.int .u32 (wn (a + b))] rfl rfl (news_cells N1.out) (wn_one _) (by unfold maxLen; omega) (by omega) D2.out.size (d := 153) rfl ?_
          intro x6 w6 hown hgrow hnil6
          have HQ2 : Hid (Below wq.heap.size wq w6) := D2.out.trans (below_of_grown hgrow (fun z hz => ((owns_below HO.out D1.out).lt z hz).1) D2.out.size)
          have HO2 : Hid (w6.ownsRow wq.heap.size 70 1 x6 (q + 1) (wordCells ((bytesOf (addW v V)).take (q + 1)))) := by show World.ownsRow _ _ _ _ _ _ _; rw [HS.out, wordCells_append]; exact hown
          have z0 : w6.cell? ⟨H, q, none⟩ = some (.int .u32 (wn a)) := (HQ2.out.cell (p := ⟨H, q, none⟩) hHq).trans ((HQ.out.cell (p := ⟨H, q, none⟩) hHq).symm.trans x0)
          have z1 : w6.cell? ⟨G, q, none⟩ = some (.int .u32 (wn b)) := (HQ2.out.cell (p := ⟨G, q, none⟩) hGz).trans ((HQ.out.cell (p := ⟨G, q, none⟩) hGz).symm.trans x1)
          clear hown hgrow hnil6
          refine hK.out _ _ ?_ (fun hHeld => ?_)
          · (first | go_keep | ((try dsimp only); go_keep))
          clear hK K
          simp only [Act.put, List.setIfInBounds_toArray, List.set_cons_zero, List.set_cons_succ]
          refine wpAnyH_takeD (i := 12) (d := 15) (v := x6) rfl (by kernel_rfl) (by kernel_rfl) (by kernel_rfl) (fun _ _ _ h => h) (Or.inl ⟨by rfl, by intro w hSw; (try dsimp only at hSw); go_simp⟩) (by assumption) rfl ?_
          simp only [Act.put, List.setIfInBounds_toArray, List.set_cons_zero, List.set_cons_succ]
          refine wpAnyH_done (by kernel_rfl) ?_ _
          go_wp2
          go_roundw
          case rel => exact ⟨q + 1, by omega, by go_num, HO2.out, HQ2.out⟩
          case measure => simp [intOf]; omega
        · have hqe : q = 8 := by omega
          subst hqe
          have HO8 : Hid (wr.ownsRow wq.heap.size 70 1 u15 8 (wordCells (bytesOf (addW v V)))) := HO.out
          go_wp2
          go_ret
          exact ⟨_, rfl, by rw [HM.out]; exact owns_down HO8.out hwq, HLW.out.trans (HQ.out.mono hwq)⟩
end Go.Proofs.YtdjpeickokoclaaDoor
