/-
  Rings, drawn: spec.l13Ring.
-/
import Derived.Test.YtdjpeickokoclaaDoorGW483
import Derived.Test.YtdjpeickokoclaaDoorGW220
import Derived.Test.YtdjpeickokoclaaDoorGW404
import Derived.Deep.DeepCutAuto
namespace Go.Proofs.YtdjpeickokoclaaDoor
open Go.RowKit
set_option linter.unusedVariables false
theorem RowOwn.kept {t : TypeId} {size lo hi blk : Nat} {w w' : World} {v : Value} {n : Nat} {C : (Nat → Value) → Prop} (h : RowOwn t size lo hi w v n C) (hk : Kept blk w w') (hb : blk < lo) : RowOwn t size lo hi w' v n C := h.block fun g h1 _ _ _ hg => hk.block g hg (by omega)
theorem RingOwn.kept {lo hi blk : Nat} {w w' : World} {v : Value} {x : RingM} (h : RingOwn lo hi w v x) (hk : Kept blk w w') (hb : blk < lo) : RingOwn lo hi w' v x := by
  obtain ⟨va, vn, hv, h1, h2⟩ := h
  exact ⟨va, vn, hv, ⟨RowOwn.kept h1.1 hk hb, h1.2⟩, RowOwn.kept h2 hk hb⟩
theorem RowOwn.setRowT {t t' : TypeId} {size lo hi q : Nat} {w : World} {v : Value} {n : Nat} {C : (Nat → Value) → Prop} {old : Array Value} {fr : Nat × Nat} (h : RowOwn t size lo hi w v n C) (hq : w.heap[q]? = some (.cells old t' fr)) (hne : t ≠ t') (cs : Array Value) : RowOwn t size lo hi (w.setRow q cs) v n C := by
  obtain ⟨a, cap, hv, h3, h4, hh⟩ := h
  refine ⟨a, cap, hv, h3, h4, fun hn => ?_⟩
  obtain ⟨g, m, f, ha, k1, k2, k3, k4, k5⟩ := hh hn
  have hgq : g ≠ q := by
    rintro rfl
    obtain ⟨cur, hc, _⟩ := k4
    rw [hq] at hc
    cases hc
    exact hne rfl
  exact ⟨g, m, f, ha, k1, k2, k3, k4.of_block (setRow_other _ _ _ _ hgq), k5⟩
theorem RingOwn.setRowR {lo hi q : Nat} {w : World} {v : Value} {x : RingM} {old : Array Value} {fr : Nat × Nat} (h : RingOwn lo hi w v x) (hq : w.heap[q]? = some (.cells old 26 fr)) (cs : Array Value) : RingOwn lo hi (w.setRow q cs) v x := by
  obtain ⟨va, vn, hv, h1, h2⟩ := h
  exact ⟨va, vn, hv, ⟨RowOwn.setRowT h1.1 hq (by decide) cs, h1.2⟩, RowOwn.setRowT h2 hq (by decide) cs⟩
theorem RingOwn.setRowT2 {lo hi q : Nat} {w : World} {v : Value} {x : RingM} {old : Array Value} {fr : Nat × Nat} (h : RingOwn lo hi w v x) (hq : w.heap[q]? = some (.cells old 28 fr)) (cs : Array Value) : RingOwn lo hi (w.setRow q cs) v x := by
  obtain ⟨va, vn, hv, h1, h2⟩ := h
  exact ⟨va, vn, hv, ⟨RowOwn.setRowT h1.1 hq (by decide) cs, h1.2⟩, RowOwn.setRowT h2 hq (by decide) cs⟩
theorem Kept.setRow {blk q : Nat} {w x : World} (h : Kept blk w x) (hq : w.heap.size ≤ q) (cs : Array Value) : Kept blk w (x.setRow q cs) :=
  ⟨h.os, h.tape, h.output, by have := h.size; simpa using this, fun k hk hn => (setRow_other _ _ _ _ (by omega)).trans (h.block k hk hn)⟩
theorem rdAt_low491 {w w' : World} {blk p : Nat} (h : RdAt w blk p) (hb : ∀ k, k ≤ blk → w'.heap[k]? = w.heap[k]?) : RdAt w' blk p := by
  obtain ⟨a, len, cap, h1, h2, h3⟩ := h
  refine ⟨a, len, cap, (hb blk (Nat.le_refl _)).trans h1, h2, ?_⟩
  rcases h3 with h3 | ⟨b, off, ha, hb', hc⟩
  · exact .inl h3
  · refine .inr ⟨b, off, ha, hb', fun i hi => ?_⟩
    obtain ⟨z, hz, hz1⟩ := hc i hi
    exact ⟨z, (World.cell?_of_block (w := w) (hb b (by omega))).trans hz, hz1⟩
theorem RdAt.setRow {w : World} {blk p q : Nat} (h : RdAt w blk p) (hq : blk < q) (cs : Array Value) : RdAt (w.setRow q cs) blk p := rdAt_low491 h fun k hk => setRow_other _ _ _ _ (by omega)
theorem RdAt.below {w w' : World} {blk p : Nat} (h : RdAt w blk p) (hb : Below w.heap.size w w') : RdAt w' blk p := h.keep hb
def five491 : List ByteArray := [⟨#[107, 101, 121, 50]⟩, ⟨#[111, 116, 104, 101, 114]⟩, ⟨#[107]⟩, ⟨#[0, 255]⟩, ⟨#[108, 97, 115, 116]⟩]
def fiveAt (i : Nat) : ByteArray := five491.getD i ⟨#[]⟩
theorem five_size (i : Nat) : (fiveAt i).size ≤ 5 := by
  unfold fiveAt five491
  match i with
  | 0 | 1 | 2 | 3 | 4 => decide
  | n + 5 => simp; decide
theorem five_cells {w : World} {b : Nat} (h : w.heap[b]? = some (.cells #[.string ⟨#[107, 101, 121, 50]⟩, .string ⟨#[111, 116, 104, 101, 114]⟩, .string ⟨#[107]⟩, .string ⟨#[0, 255]⟩, .string ⟨#[108, 97, 115, 116]⟩] 9 (0, 0))) {i : Nat} (hi : i < 5) : w.cell? ⟨b, i, none⟩ = some (.string (fiveAt i)) := by
  rw [cell_of_row _ _ i _ _ _ h]
  match i, hi with
  | 0, _ => rfl
  | 1, _ => rfl
  | 2, _ => rfl
  | 3, _ => rfl
  | 4, _ => rfl
theorem ringOk_new {s : ByteArray} (h : keyT s = true) : ringOk ([s], [1]) = true := by
  refine ringOk_t ⟨by simp, by simp, by simp, rfl, fun i k hk => ?_, fun i a b _ hb => ?_, fun i b hb => ?_⟩
  · match i, hk with
    | 0, hk => simp at hk; rw [← hk]; exact ⟨h, fun j hj => absurd hj (by omega)⟩
    | i + 1, hk => simp at hk
  · simp at hb
  · match i, hb with
    | 0, hb => simp at hb; omega
    | i + 1, hb => simp at hb
theorem rtk_keeps {x : RingM} (t : TurnM) (h : ringOk x = true) : ringOk (rtkT x t) = true := by
  unfold rtkT
  rw [h, if_pos rfl]
  split
  · next hb =>
    unfold rtkB at hb
    simp only [Bool.and_eq_true] at hb
    have h2 := hb.1
    unfold tofB at h2
    simp only [Bool.and_eq_true] at h2
    exact h2.2
  · exact h
set_option maxHeartbeats 1000000 in
theorem specRingNewK_any (w : World) (s : ByteArray) (hs : s.size ≤ maxLen) (hk : keyT s = true) :
    Calls Tryd.prog 52 #[.string s] w fun e w' => ∃ g1 c1 g2 c2, e = .returned (.tuple #[.agg #[.slice g1 1 c1, .slice g2 1 c2], .bool true]) ∧ RingOwn w.heap.size w'.heap.size w' (.agg #[.slice g1 1 c1, .slice g2 1 c2]) ([s], [1]) ∧ Below w.heap.size w w' := by
  have HF : Hid (∀ (i : Nat) (x : ByteArray), [s][i]? = some x → x.size ≤ maxLen) := fun i x hx => by
    match i, hx with
    | 0, hx => simp at hx; rw [← hx]; exact hs
  go_enter Tryd.func52, Tryd.ntmps52
  go_wp2_with fail
  refine (l6Key_any _ _ hs).mono ?_
  rintro e w1 ⟨rfl, hw⟩
  have hw2 := hw.symm
  clear hw
  subst hw2
  rw [hk]
  go_wp2
  refine bodyPost_ret (v := .tuple #[.agg #[.slice (some ⟨w.heap.size + 1, 0, none⟩) 1 1, .slice (some ⟨w.heap.size + 1 + 1, 0, none⟩) 1 1], .bool true]) (by simp [results, Tryd.results52, go_sem]) rfl ⟨_, _, _, _, rfl, ?_, ?_⟩
  · have e1 : ∀ (W : World), (W.setCell ⟨w.heap.size, 0, none⟩ (.slice (some ⟨w.heap.size + 1, 0, none⟩) 1 1)).heap.size = W.heap.size := fun W => by simp
    refine RingOwn.weak480 (lo := w.heap.size + 1) (hi := w.heap.size + 1 + 1 + 1) (ring_of_rows ⟨⟨_, 1, rfl, Nat.le_refl _, by unfold maxLen; simp, fun _ => ⟨w.heap.size + 1, 1, fun i => #[Value.string s][i]?.getD (.bool false), rfl, Nat.le_refl _, by omega, by simp, ⟨#[.string s], ?_, rfl, fun i hi => by simp [hi]⟩, fun j x hj hx => ?_⟩⟩, HF.out⟩ ⟨_, 1, rfl, Nat.le_refl _, by unfold maxLen; simp, fun _ => ⟨w.heap.size + 1 + 1, 1, fun i => #[Value.int .i64 1][i]?.getD (.bool false), rfl, by omega, by omega, by simp, ⟨#[.int .i64 1], ?_, rfl, fun i hi => by simp [hi]⟩, fun j x hj hx => ?_⟩⟩) (by omega) (by simp <;> omega)
    · rw [Below.heap_alloc _ _ _ (by simp <;> omega)]
      have h9 := heap_alloc_last (w.alloc (.cells #[.slice (some ⟨w.heap.size + 1, 0, none⟩) 1 1, .slice (some ⟨w.heap.size + 1 + 1, 0, none⟩) 1 1] 26)) (.cells #[.string s] 9)
      rw [World.size_alloc] at h9
      exact h9
    · match j, hx with
      | 0, hx => simp at hx; subst hx; rfl
    · have h9 := heap_alloc_last ((w.alloc (.cells #[.slice (some ⟨w.heap.size + 1, 0, none⟩) 1 1, .slice (some ⟨w.heap.size + 1 + 1, 0, none⟩) 1 1] 26)).alloc (.cells #[.string s] 9)) (.cells #[.int .i64 1] 3)
      rw [World.size_alloc, World.size_alloc] at h9
      exact h9
    · match j, hx with
      | 0, hx => simp at hx; subst hx; rfl
  · repeat refine Below.setCell ?_ (Nat.le_refl _) _
    exact ((((Below.refl _ _).alloc (Nat.le_refl _) _).alloc (by simp) _).alloc (by simp <;> omega) _)
/-- What a drawn ring is like. -/
def drR (x : RingM) (w : World) (blk p m : Nat) (e : Ending) (w' : World) : Prop :=
  ∃ (g1 : Option Addr) (n1 c1 : Nat) (g2 : Option Addr) (n2 c2 : Nat), e = .returned (.agg #[.slice g1 n1 c1, .slice g2 n2 c2]) ∧ RingOwn w.heap.size w'.heap.size w' (.agg #[.slice g1 n1 c1, .slice g2 n2 c2]) x ∧ (∃ q, RdAt w' blk q ∧ q ≤ p + m) ∧ Kept blk w w'
theorem turn491 (w : World) (v : Value) (x : RingM) (key : ByteArray) (fr : Int) (h : RingAt w v x) (hk : key.size ≤ 64 := by exact Nat.le_trans (five_size _) (by decide)) :
    Calls Tryd.prog 15 #[v, .string key, .int .i64 fr] w fun e w' => ∃ (tk : ByteArray) (tf : Int) (ts : ByteArray) (b : Bool), e = .returned (.tuple #[.agg #[.string tk, .int .i64 tf, .string ts], .bool b]) ∧ tk.size ≤ 64 ∧ Below w.heap.size w w' := by
  refine (specTurnOf_any w v x key fr h (by unfold maxLen; omega)).mono ?_
  rintro e w' ⟨rfl, hb⟩
  refine ⟨_, _, _, _, rfl, ?_, hb⟩
  unfold tofT
  split
  · exact hk
  · exact Nat.zero_le _
set_option maxRecDepth 100000 in
set_option maxHeartbeats 8000000 in
theorem l13Ring_any (w : World) (blk p : Nat) (h : RdAt w blk p) (hp : p ≤ 100000) :
    Calls Tryd.prog 39 #[.pointer (some ⟨blk, 0, none⟩)] w fun e w' => ∃ x, ringOk x = true ∧ drR x w blk p 20 e w' := by
  have hlt := h.lt
  have HBL : Hid (blk < w.heap.size) := hlt
  obtain ⟨W, hW⟩ : ∃ W, w.alloc (.cells #[.slice none 0 0, .slice none 0 0] 26) = W := ⟨_, rfl⟩
  have hzW : W.heap.size = w.heap.size + 1 := by rw [← hW]; simp
  have NrW : Hid (W.heap[w.heap.size]? = some (.cells #[.slice none 0 0, .slice none 0 0] 26 (0, 0))) := by show _ = _; rw [← hW]; exact heap_alloc_last w _
  have RW : Hid (RdAt W blk p) := by show RdAt _ _ _; rw [← hW]; exact h.alloc _
  have KW : Hid (Kept blk w W) := by show Kept _ _ _; rw [← hW]; exact (Kept.refl blk w).alloc _
  have HW : Hid (w.alloc (.cells #[.slice none 0 0, .slice none 0 0] 26) = W) := hW
  clear h hW
  go_enter Tryd.func39, Tryd.ntmps39
  go_wp2_with fail
  try rw [HW.out]
  refine (specRingNewK_any W ⟨#[107, 101, 121]⟩ (by unfold maxLen; decide) (by decide +kernel)).mono ?_
  rintro e w1 ⟨g1, c1, g2, c2, rfl, ho, hb1⟩
  have R1 : Hid (RdAt w1 blk p) := RW.out.keep hb1
  have K1 : Hid (Kept blk w w1) := KW.out.trans (Kept.of_below hb1)
  have Nr1 : Hid (w1.heap[w.heap.size]? = some (.cells #[.slice none 0 0, .slice none 0 0] 26 (0, 0))) := (hb1.block _ (by omega)).trans NrW.out
  have O1 : Hid (RingOwn (w.heap.size + 1) w1.heap.size w1 (.agg #[.slice g1 1 c1, .slice g2 1 c2]) ([⟨#[107, 101, 121]⟩], [1])) := by rw [← hzW]; exact ho
  have hz1 : w.heap.size + 1 ≤ w1.heap.size := by have := hb1.size; omega
  clear ho hb1
  obtain ⟨W2, hW2⟩ : ∃ X, (w1.alloc (.cells #[.slice g1 1 c1, .slice g2 1 c2] 26)).alloc (.cells #[.string ⟨#[107, 101, 121, 50]⟩, .string ⟨#[111, 116, 104, 101, 114]⟩, .string ⟨#[107]⟩, .string ⟨#[0, 255]⟩, .string ⟨#[108, 97, 115, 116]⟩] 9) = X := ⟨_, rfl⟩
  have hzW2 : W2.heap.size = w1.heap.size + 1 + 1 := by rw [← hW2]; simp
  have hB2 : Below w1.heap.size w1 W2 := by rw [← hW2]; exact ((Below.refl _ _).alloc (Nat.le_refl _) _).alloc (by simp) _
  have NxW2 : Hid (W2.heap[w1.heap.size]? = some (.cells #[.slice g1 1 c1, .slice g2 1 c2] 26 (0, 0))) := by show _ = _; rw [← hW2]; exact heap_alloc2_old _ _ _
  have NkW2 : Hid (W2.heap[w1.heap.size + 1]? = some (.cells #[.string ⟨#[107, 101, 121, 50]⟩, .string ⟨#[111, 116, 104, 101, 114]⟩, .string ⟨#[107]⟩, .string ⟨#[0, 255]⟩, .string ⟨#[108, 97, 115, 116]⟩] 9 (0, 0))) := by show _ = _; rw [← hW2]; exact heap_alloc2_new _ _ _
  have NrW2 : Hid (W2.heap[w.heap.size]? = some (.cells #[.slice none 0 0, .slice none 0 0] 26 (0, 0))) := (hB2.block _ (by omega)).trans Nr1.out
  have RW2 : Hid (RdAt W2 blk p) := R1.out.keep hB2
  have KW2 : Hid (Kept blk w W2) := K1.out.trans (Kept.of_below hB2)
  have OW2 : Hid (RingOwn (w.heap.size + 1) w1.heap.size W2 (.agg #[.slice g1 1 c1, .slice g2 1 c2]) ([⟨#[107, 101, 121]⟩], [1])) := O1.out.below hB2
  have HW2 : Hid ((w1.alloc (.cells #[.slice g1 1 c1, .slice g2 1 c2] 26)).alloc (.cells #[.string ⟨#[107, 101, 121, 50]⟩, .string ⟨#[111, 116, 104, 101, 114]⟩, .string ⟨#[107]⟩, .string ⟨#[0, 255]⟩, .string ⟨#[108, 97, 115, 116]⟩] 9) = W2) := hW2
  obtain ⟨bx, hbx⟩ : ∃ b, w1.heap.size = b := ⟨_, rfl⟩
  have HX : Hid (w.heap.size + 1 ≤ bx) := by show _ ≤ _; omega
  rw [hbx] at NxW2 NkW2 OW2 hzW2
  have HBX : Hid (w1.heap.size = bx) := hbx
  clear hB2 hW2 hbx hz1 hzW
  go_wp2_with fail
  rw [HW2.out]
  try rw [HBX.out]
  refine (pick_any W2 blk p 5 RW2.out (by omega) (by omega)).mono ?_
  rintro e w3 ⟨v, rfl, hv0, hv1, hr3, hk3⟩
  obtain ⟨N, rfl⟩ : ∃ N : Nat, v = (N : Int) := ⟨v.toNat, by omega⟩
  have hN : N ≤ 4 := by have := hv1 (by omega); omega
  have R3 : Hid (RdAt w3 blk (p + 1)) := hr3
  have K3 : Hid (Kept blk w w3) := KW2.out.trans hk3
  have Nr3 : Hid (w3.heap[w.heap.size]? = some (.cells #[.slice none 0 0, .slice none 0 0] 26 (0, 0))) := (hk3.block _ (by have := HX.out; omega) (by omega)).trans NrW2.out
  have Nx3 : Hid (w3.heap[bx]? = some (.cells #[.slice g1 1 c1, .slice g2 1 c2] 26 (0, 0))) := (hk3.block _ (by omega) (by have := HX.out; omega)).trans NxW2.out
  have Nk3 : Hid (w3.heap[bx + 1]? = some (.cells #[.string ⟨#[107, 101, 121, 50]⟩, .string ⟨#[111, 116, 104, 101, 114]⟩, .string ⟨#[107]⟩, .string ⟨#[0, 255]⟩, .string ⟨#[108, 97, 115, 116]⟩] 9 (0, 0))) := (hk3.block _ (by omega) (by have := HX.out; omega)).trans NkW2.out
  have O3 : Hid (RingOwn (w.heap.size + 1) w3.heap.size w3 (.agg #[.slice g1 1 c1, .slice g2 1 c2]) ([⟨#[107, 101, 121]⟩], [1])) := (OW2.out.kept hk3 (by omega)).weak480 (Nat.le_refl _) (by have := hk3.size; omega)
  clear hv0 hv1 hr3 hk3 hzW2
  go_wp2_with fail
  go_loopw [6, 7] (fun fr i wr => ∃ (m r M : Nat) (g1 : Option Addr) (n1 c1 : Nat) (g2 : Option Addr) (n2 c2 : Nat) (x : RingM) (q : Nat), m + r ≤ 4 ∧ fr = .int .i64 M ∧ M ≤ 1 + 3 * r ∧ i = .int .i64 m ∧ wr.heap[w.heap.size]? = some (.cells #[.slice none 0 0, .slice none 0 0] 26 (0, 0)) ∧ wr.heap[bx]? = some (.cells #[.slice g1 n1 c1, .slice g2 n2 c2] 26 (0, 0)) ∧ wr.heap[bx + 1]? = some (.cells #[.string ⟨#[107, 101, 121, 50]⟩, .string ⟨#[111, 116, 104, 101, 114]⟩, .string ⟨#[107]⟩, .string ⟨#[0, 255]⟩, .string ⟨#[108, 97, 115, 116]⟩] 9 (0, 0)) ∧ RingOwn (w.heap.size + 1) wr.heap.size wr (.agg #[.slice g1 n1 c1, .slice g2 n2 c2]) x ∧ ringOk x = true ∧ RdAt wr blk q ∧ q ≤ p + 1 + 2 * r ∧ Kept blk w wr) (fun _ i _ => (intOf i).toNat)
  case atStart => exact ⟨N, 0, 1, _, _, _, _, _, _, _, p + 1, by omega, rfl, by omega, rfl, Nr3.out, Nx3.out, Nk3.out, O3.out, ringOk_new (by decide +kernel), R3.out, by omega, K3.out⟩
  case round =>
    obtain ⟨m, r, M, g1, n1, c1, g2, n2, c2, x, q, hmr, rfl, hM, rfl, hnr, hnx, hnk, ho, hok, hr, hq, hk⟩ := hrel
    have Nbrwr : Hid (wr.heap[w.heap.size]? = some (.cells #[.slice none 0 0, .slice none 0 0] 26 (0, 0))) := hnr
    have Nbxwr : Hid (wr.heap[bx]? = some (.cells #[.slice g1 n1 c1, .slice g2 n2 c2] 26 (0, 0))) := hnx
    have Nbkwr : Hid (wr.heap[bx + 1]? = some (.cells #[.string ⟨#[107, 101, 121, 50]⟩, .string ⟨#[111, 116, 104, 101, 114]⟩, .string ⟨#[107]⟩, .string ⟨#[0, 255]⟩, .string ⟨#[108, 97, 115, 116]⟩] 9 (0, 0))) := hnk
    have O : Hid (RingOwn (w.heap.size + 1) wr.heap.size wr (.agg #[.slice g1 n1 c1, .slice g2 n2 c2]) x) := ho
    have HOK : Hid (ringOk x = true) := hok
    have R : Hid (RdAt wr blk q) := hr
    have K : Hid (Kept blk w wr) := hk
    have x0 : wr.cell? ⟨bx, 0, none⟩ = some (.slice g1 n1 c1) := by rw [cell_of_row _ _ 0 _ _ _ hnx]; rfl
    have x1 : wr.cell? ⟨bx, 1, none⟩ = some (.slice g2 n2 c2) := by rw [cell_of_row _ _ 1 _ _ _ hnx]; rfl
    have hxb := HX.out
    have hxl : bx + 1 < wr.heap.size := (Array.getElem?_eq_some_iff.1 hnk).1
    clear ho hok hr hk
    by_cases h0 : 0 < m
    · have h0i : (0 : Int) < m := by omega
      obtain ⟨m', hm'⟩ : ∃ m', m = m' + 1 := ⟨m - 1, by omega⟩
      have q1 : IntKind.i64.wrap ((m : Int) - 1) = (m' : Int) := by rw [show (m : Int) - 1 = (m' : Int) by omega]; exact IntWalk.i64_in _ (by omega)
      have HM : Hid (m = m' + 1) := hm'
      clear hm' hnr hnx hnk x0 x1
      go_wp2_with fail
      refine (pick_any wr blk q 3 R.out (by omega) (by omega)).mono ?_
      rintro e w4 ⟨v, rfl, hv0, hv1, hr4, hk4⟩
      obtain ⟨V, rfl⟩ : ∃ V : Nat, v = (V : Int) := ⟨v.toNat, by omega⟩
      have hV : V ≤ 2 := by have := hv1 (by omega); omega
      obtain ⟨M', hM'⟩ : ∃ M', M + 1 + V = M' := ⟨_, rfl⟩
      have q2 : IntKind.i64.wrap (IntKind.i64.wrap ((M : Int) + 1) + (V : Int)) = (M' : Int) := by rw [IntWalk.i64_in ((M : Int) + 1) (by omega), IntWalk.i64_in _ (by omega)]; omega
      have q3 : (M : Int) + 1 + (V : Int) = (M' : Int) := by omega
      have RDw4 : Hid (RdAt w4 blk (q + 1)) := hr4
      have Kw4 : Hid (Kept blk w w4) := K.out.trans hk4
      have Nbrw4 : Hid (w4.heap[w.heap.size]? = some (.cells #[.slice none 0 0, .slice none 0 0] 26 (0, 0))) := (hk4.block _ (by omega) (by omega)).trans Nbrwr.out
      have Nbxw4 : Hid (w4.heap[bx]? = some (.cells #[.slice g1 n1 c1, .slice g2 n2 c2] 26 (0, 0))) := (hk4.block _ (by omega) (by omega)).trans Nbxwr.out
      have Nbkw4 : Hid (w4.heap[bx + 1]? = some (.cells #[.string ⟨#[107, 101, 121, 50]⟩, .string ⟨#[111, 116, 104, 101, 114]⟩, .string ⟨#[107]⟩, .string ⟨#[0, 255]⟩, .string ⟨#[108, 97, 115, 116]⟩] 9 (0, 0))) := (hk4.block _ (by omega) (by omega)).trans Nbkwr.out
      have OOw4 : Hid (RingOwn (w.heap.size + 1) w4.heap.size w4 (.agg #[.slice g1 n1 c1, .slice g2 n2 c2]) x) := (O.out.kept hk4 (by omega)).weak480 (Nat.le_refl _) hk4.size
      have hxl4 : bx + 1 < w4.heap.size := Nat.lt_of_lt_of_le hxl hk4.size
      clear hv0 hv1 hr4 hk4
      go_wp2_with fail
      go_cut [8] (fun u wx => ∃ (b8 : Nat) (tk : ByteArray) (tf : Int) (ts : ByteArray) (q' : Nat), u = .pointer (some ⟨b8, 0, none⟩) ∧ wx.heap[b8]? = some (.cells #[.string tk, .int .i64 tf, .string ts] 28 (0, 0)) ∧ tk.size ≤ 64 ∧ w.heap.size ≤ b8 ∧ b8 ≠ bx ∧ wx.heap[w.heap.size]? = some (.cells #[.slice none 0 0, .slice none 0 0] 26 (0, 0)) ∧ wx.heap[bx]? = some (.cells #[.slice g1 n1 c1, .slice g2 n2 c2] 26 (0, 0)) ∧ wx.heap[bx + 1]? = some (.cells #[.string ⟨#[107, 101, 121, 50]⟩, .string ⟨#[111, 116, 104, 101, 114]⟩, .string ⟨#[107]⟩, .string ⟨#[0, 255]⟩, .string ⟨#[108, 97, 115, 116]⟩] 9 (0, 0)) ∧ RingOwn (w.heap.size + 1) w4.heap.size wx (.agg #[.slice g1 n1 c1, .slice g2 n2 c2]) x ∧ RdAt wx blk q' ∧ q' ≤ q + 2 ∧ Kept blk w wx ∧ w4.heap.size ≤ wx.heap.size)
      case first =>
        refine wp_region_held_drew (S := (fun w' => w'.cell? ⟨bx, 0, none⟩ = some (.slice g1 n1 c1) ∧ w'.cell? ⟨bx, 1, none⟩ = some (.slice g2 n2 c2))) (by kernel_rfl) ?_ (fun hHeld => ?_)
        · exact ⟨by show w4.cell? ⟨bx, 0, none⟩ = _; rw [cell_of_row _ _ 0 _ _ _ Nbxw4.out]; rfl, by show w4.cell? ⟨bx, 1, none⟩ = _; rw [cell_of_row _ _ 1 _ _ _ Nbxw4.out]; rfl⟩
        refine wpAnyH_takeD (i := 0) (d := 27) (v := .agg #[.slice g1 n1 c1, .slice g2 n2 c2]) rfl (by kernel_rfl) (by kernel_rfl) (by kernel_rfl) (fun _ _ _ h => h) (Or.inl ⟨by rfl, by intro w hSw; (try dsimp only at hSw); go_simp⟩) (by assumption) rfl ?_
        simp only [Act.put, List.setIfInBounds_toArray, List.set_cons_zero, List.set_cons_succ]
        refine wpAnyH_takeD (i := 1) (d := 28) (v := .slice (some ⟨bx + 1, 0, none⟩) 5 5) rfl (by kernel_rfl) (by kernel_rfl) (by kernel_rfl) (fun _ _ _ h => h) (Or.inl ⟨by rfl, by intro w hSw; (try dsimp only at hSw); go_simp⟩) (by assumption) rfl ?_
        simp only [Act.put, List.setIfInBounds_toArray, List.set_cons_zero, List.set_cons_succ]
        refine wpAnyH_takeD (i := 2) (d := 29) (v := .pointer (some ⟨blk, 0, none⟩)) rfl (by kernel_rfl) (by kernel_rfl) (by kernel_rfl) (fun _ _ _ h => h) (Or.inl ⟨by rfl, by intro w hSw; (try dsimp only at hSw); go_simp⟩) (by assumption) rfl ?_
        simp only [Act.put, List.setIfInBounds_toArray, List.set_cons_zero, List.set_cons_succ]
        refine wpAnyH_takeD (i := 3) (d := 30) (v := .slice (some ⟨bx + 1, 0, none⟩) 5 5) rfl (by kernel_rfl) (by kernel_rfl) (by kernel_rfl) (fun _ _ _ h => h) (Or.inl ⟨by rfl, by intro w hSw; (try dsimp only at hSw); go_simp⟩) (by assumption) rfl ?_
        simp only [Act.put, List.setIfInBounds_toArray, List.set_cons_zero, List.set_cons_succ]
        refine wpAnyH_takeD (i := 4) (d := 31) (v := .int .i64 5) rfl (by kernel_rfl) (by kernel_rfl) (by kernel_rfl) (fun _ _ _ h => h) (Or.inl ⟨by rfl, by intro w hSw; (try dsimp only at hSw); go_simp⟩) (by assumption) rfl ?_
        simp only [Act.put, List.setIfInBounds_toArray, List.set_cons_zero, List.set_cons_succ]
        refine wpAnyH_takeD (i := 8) (d := 35) (v := .int .i64 (M' : Int)) rfl (by kernel_rfl) (by kernel_rfl) (by kernel_rfl) (fun _ _ _ h => h) (Or.inl ⟨by rfl, by intro w hSw; (try dsimp only at hSw); go_simp⟩) (by assumption) rfl ?_
        simp only [Act.put, List.setIfInBounds_toArray, List.set_cons_zero, List.set_cons_succ]
        obtain ⟨y0, hx⟩ : ∃ X, World.drew w4 = X := ⟨_, rfl⟩
        have Ky0 : Hid (Kept blk w y0) := by show Kept _ _ _; rw [← hx]; exact Kw4.out.trans (Kept.of_below (Below.refl _ _).drew)
        have Zy0 : Hid (w4.heap.size ≤ y0.heap.size) := by show _ ≤ _; rw [← hx]; exact Nat.le_refl _
        have RDy0 : Hid (RdAt y0 blk (q + 1)) := by have h9 := RDw4.out.below (Below.refl _ _).drew; rw [hx] at h9; exact h9
        have OOy0 : Hid (RingOwn (w.heap.size + 1) w4.heap.size y0 (.agg #[.slice g1 n1 c1, .slice g2 n2 c2]) x) := by have h9 := OOw4.out.below (Below.refl _ _).drew; rw [hx] at h9; exact h9
        have Nbry0 : Hid (y0.heap[w.heap.size]? = some (.cells #[.slice none 0 0, .slice none 0 0] 26 (0, 0))) := by show _ = _; rw [← hx]; exact Nbrw4.out
        have Nbxy0 : Hid (y0.heap[bx]? = some (.cells #[.slice g1 n1 c1, .slice g2 n2 c2] 26 (0, 0))) := by show _ = _; rw [← hx]; exact Nbxw4.out
        have Nbky0 : Hid (y0.heap[bx + 1]? = some (.cells #[.string ⟨#[107, 101, 121, 50]⟩, .string ⟨#[111, 116, 104, 101, 114]⟩, .string ⟨#[107]⟩, .string ⟨#[0, 255]⟩, .string ⟨#[108, 97, 115, 116]⟩] 9 (0, 0))) := by show _ = _; rw [← hx]; exact Nbkw4.out
        rw [hx]
        clear hx
        refine wpAnyH_ready (rs := [5, 13]) (by kernel_rfl) (by simp) ?_
        refine AllReadyH.cons rfl (fun K hK => ?_) (AllReadyH.cons rfl (fun K hK => ?_) AllReadyH.nil)
        · skip
          go_simp
          refine (pick_any _ blk (q + 1) 5 RDy0.out (by omega) (by omega)).mono ?_
          rintro e y1 ⟨v5, rfl, hv0, hv1, hr, hb⟩
          obtain ⟨V5, rfl⟩ : ∃ V : Nat, v5 = (V : Int) := ⟨v5.toNat, by omega⟩
          have hV5 : V5 < 5 := by have := hv1 (by omega); omega
          have hV5i : (0 : Int) ≤ (V5 : Int) := by omega
          have hV5j : (V5 : Int) < 5 := by omega
          clear hv0 hv1
          have Zy1 : Hid (y0.heap.size ≤ y1.heap.size) := hb.size
          have Ky1 : Hid (Kept blk w y1) := Ky0.out.trans hb
          have OOy1 : Hid (RingOwn (w.heap.size + 1) w4.heap.size y1 (.agg #[.slice g1 n1 c1, .slice g2 n2 c2]) x) := OOy0.out.kept hb (by omega)
          have Nbry1 : Hid (y1.heap[w.heap.size]? = some (.cells #[.slice none 0 0, .slice none 0 0] 26 (0, 0))) := (hb.block _ (Array.getElem?_eq_some_iff.1 Nbry0.out).1 (by first | omega | (have := HQbr.out; omega))).trans Nbry0.out
          have Nbxy1 : Hid (y1.heap[bx]? = some (.cells #[.slice g1 n1 c1, .slice g2 n2 c2] 26 (0, 0))) := (hb.block _ (Array.getElem?_eq_some_iff.1 Nbxy0.out).1 (by first | omega | (have := HQbx.out; omega))).trans Nbxy0.out
          have Nbky1 : Hid (y1.heap[bx + 1]? = some (.cells #[.string ⟨#[107, 101, 121, 50]⟩, .string ⟨#[111, 116, 104, 101, 114]⟩, .string ⟨#[107]⟩, .string ⟨#[0, 255]⟩, .string ⟨#[108, 97, 115, 116]⟩] 9 (0, 0))) := (hb.block _ (Array.getElem?_eq_some_iff.1 Nbky0.out).1 (by first | omega | (have := HQbk.out; omega))).trans Nbky0.out
          have RDy1 : Hid (RdAt y1 blk (q + 1 + 1)) := hr
          clear hb
          refine hK.out _ _ ?_ (fun hHeld => ?_)
          · exact ⟨by show y1.cell? ⟨bx, 0, none⟩ = _; rw [cell_of_row _ _ 0 _ _ _ Nbxy1.out]; rfl, by show y1.cell? ⟨bx, 1, none⟩ = _; rw [cell_of_row _ _ 1 _ _ _ Nbxy1.out]; rfl⟩
          clear hK K
          try simp only [Act.put, List.setIfInBounds_toArray, List.set_cons_zero, List.set_cons_succ]
          refine wpAnyH_takeD (i := 6) (d := 33) (v := .pointer (some ⟨bx + 1, V5, none⟩)) rfl (by kernel_rfl) (by kernel_rfl) (by kernel_rfl) (fun _ _ _ h => h) (Or.inl ⟨by rfl, by intro w hSw; (try dsimp only at hSw); go_simp⟩) (by assumption) rfl ?_
          simp only [Act.put, List.setIfInBounds_toArray, List.set_cons_zero, List.set_cons_succ]
          refine wpAnyH_ready (rs := [7, 13]) (by kernel_rfl) (by simp) ?_
          refine AllReadyH.cons rfl (fun K hK => ?_) (AllReadyH.cons rfl (fun K hK => ?_) AllReadyH.nil)
          · skip
            have k9 : y1.cell? ⟨bx + 1, V5, none⟩ = some (.string (fiveAt V5)) := five_cells Nbky1.out hV5
            go_simp
            refine hK.out _ _ ?_ (fun hHeld => ?_)
            · exact ⟨by show y1.cell? ⟨bx, 0, none⟩ = _; rw [cell_of_row _ _ 0 _ _ _ Nbxy1.out]; rfl, by show y1.cell? ⟨bx, 1, none⟩ = _; rw [cell_of_row _ _ 1 _ _ _ Nbxy1.out]; rfl⟩
            clear hK K
            try simp only [Act.put, List.setIfInBounds_toArray, List.set_cons_zero, List.set_cons_succ]
            refine wpAnyH_ready (rs := [9, 13]) (by kernel_rfl) (by simp) ?_
            refine AllReadyH.cons rfl (fun K hK => ?_) (AllReadyH.cons rfl (fun K hK => ?_) AllReadyH.nil)
            · skip
              go_simp
              refine (turn491 _ _ x (fiveAt V5) (M' : Int) OOy1.out.at).mono ?_
              rintro e y2 ⟨tk, tf, ts, b, rfl, htk, hb⟩
              have HTK : Hid (tk.size ≤ 64) := htk
              clear htk
              have Zy2 : Hid (y1.heap.size ≤ y2.heap.size) := hb.size
              have Ky2 : Hid (Kept blk w y2) := Ky1.out.trans (Kept.of_below hb)
              have OOy2 : Hid (RingOwn (w.heap.size + 1) w4.heap.size y2 (.agg #[.slice g1 n1 c1, .slice g2 n2 c2]) x) := OOy1.out.below hb
              have RDy2 : Hid (RdAt y2 blk (q + 1 + 1)) := RDy1.out.below hb
              have Nbry2 : Hid (y2.heap[w.heap.size]? = some (.cells #[.slice none 0 0, .slice none 0 0] 26 (0, 0))) := (hb.block _ (Array.getElem?_eq_some_iff.1 Nbry1.out).1).trans Nbry1.out
              have Nbxy2 : Hid (y2.heap[bx]? = some (.cells #[.slice g1 n1 c1, .slice g2 n2 c2] 26 (0, 0))) := (hb.block _ (Array.getElem?_eq_some_iff.1 Nbxy1.out).1).trans Nbxy1.out
              have Nbky2 : Hid (y2.heap[bx + 1]? = some (.cells #[.string ⟨#[107, 101, 121, 50]⟩, .string ⟨#[111, 116, 104, 101, 114]⟩, .string ⟨#[107]⟩, .string ⟨#[0, 255]⟩, .string ⟨#[108, 97, 115, 116]⟩] 9 (0, 0))) := (hb.block _ (Array.getElem?_eq_some_iff.1 Nbky1.out).1).trans Nbky1.out
              clear hb
              refine hK.out _ _ ?_ (fun hHeld => ?_)
              · exact ⟨by show y2.cell? ⟨bx, 0, none⟩ = _; rw [cell_of_row _ _ 0 _ _ _ Nbxy2.out]; rfl, by show y2.cell? ⟨bx, 1, none⟩ = _; rw [cell_of_row _ _ 1 _ _ _ Nbxy2.out]; rfl⟩
              clear hK K
              try simp only [Act.put, List.setIfInBounds_toArray, List.set_cons_zero, List.set_cons_succ]
              refine wpAnyH_takeD (i := 10) (d := 26) (v := .tuple #[.agg #[.string tk, .int .i64 tf, .string ts], .bool b]) rfl (by kernel_rfl) (by kernel_rfl) (by kernel_rfl) (fun _ _ _ h => h) (Or.inl ⟨by rfl, by intro w hSw; (try dsimp only at hSw); go_simp⟩) (by assumption) rfl ?_
              simp only [Act.put, List.setIfInBounds_toArray, List.set_cons_zero, List.set_cons_succ]
              refine wpAnyH_takeD (i := 11) (d := 37) (v := .agg #[.string tk, .int .i64 tf, .string ts]) rfl (by kernel_rfl) (by kernel_rfl) (by kernel_rfl) (fun _ _ _ h => h) (Or.inl ⟨by rfl, by intro w hSw; (try dsimp only at hSw); go_simp⟩) (by assumption) rfl ?_
              simp only [Act.put, List.setIfInBounds_toArray, List.set_cons_zero, List.set_cons_succ]
              refine wpAnyH_takeD (i := 12) (d := 38) (v := .bool b) rfl (by kernel_rfl) (by kernel_rfl) (by kernel_rfl) (fun _ _ _ h => h) (Or.inl ⟨by rfl, by intro w hSw; (try dsimp only at hSw); go_simp⟩) (by assumption) rfl ?_
              simp only [Act.put, List.setIfInBounds_toArray, List.set_cons_zero, List.set_cons_succ]
              refine wpAnyH_ready (rs := [13]) (by kernel_rfl) (by simp) ?_
              refine AllReadyH.cons rfl (fun K hK => ?_) AllReadyH.nil
              go_simp
              have NA : Hid ((y2.alloc (.cells #[.string ⟨#[]⟩, .int .i64 0, .string ⟨#[]⟩] 28)).heap[y2.heap.size]? = some (.cells #[.string ⟨#[]⟩, .int .i64 0, .string ⟨#[]⟩] 28 (0, 0))) := heap_alloc_last _ _
              obtain ⟨y3, hx⟩ : ∃ X, y2.alloc (.cells #[.string ⟨#[]⟩, .int .i64 0, .string ⟨#[]⟩] 28) = X := ⟨_, rfl⟩
              have hb : Below y2.heap.size y2 y3 := by rw [← hx]; exact (Below.refl _ _).alloc (Nat.le_refl _) _
              have Zy3 : Hid (y2.heap.size < y3.heap.size) := by show _ < _; rw [← hx]; simp
              have Nq8_y3 : Hid (y3.heap[y2.heap.size]? = some (.cells #[.string ⟨#[]⟩, .int .i64 0, .string ⟨#[]⟩] 28 (0, 0))) := by show _ = _; rw [← hx]; exact NA.out
              have Ky3 : Hid (Kept blk w y3) := Ky2.out.trans (Kept.of_below hb)
              have HQq8_ : Hid (w.heap.size ≤ y2.heap.size) := Ky2.out.size
              have OOy3 : Hid (RingOwn (w.heap.size + 1) w4.heap.size y3 (.agg #[.slice g1 n1 c1, .slice g2 n2 c2]) x) := OOy2.out.below hb
              have RDy3 : Hid (RdAt y3 blk (q + 1 + 1)) := RDy2.out.below hb
              have Nbry3 : Hid (y3.heap[w.heap.size]? = some (.cells #[.slice none 0 0, .slice none 0 0] 26 (0, 0))) := (hb.block _ (Array.getElem?_eq_some_iff.1 Nbry2.out).1).trans Nbry2.out
              have Nbxy3 : Hid (y3.heap[bx]? = some (.cells #[.slice g1 n1 c1, .slice g2 n2 c2] 26 (0, 0))) := (hb.block _ (Array.getElem?_eq_some_iff.1 Nbxy2.out).1).trans Nbxy2.out
              have Nbky3 : Hid (y3.heap[bx + 1]? = some (.cells #[.string ⟨#[107, 101, 121, 50]⟩, .string ⟨#[111, 116, 104, 101, 114]⟩, .string ⟨#[107]⟩, .string ⟨#[0, 255]⟩, .string ⟨#[108, 97, 115, 116]⟩] 9 (0, 0))) := (hb.block _ (Array.getElem?_eq_some_iff.1 Nbky2.out).1).trans Nbky2.out
              rw [hx]
              clear hx NA hb
              refine hK.out _ _ ?_ (fun hHeld => ?_)
              · exact ⟨by show y3.cell? ⟨bx, 0, none⟩ = _; rw [cell_of_row _ _ 0 _ _ _ Nbxy3.out]; rfl, by show y3.cell? ⟨bx, 1, none⟩ = _; rw [cell_of_row _ _ 1 _ _ _ Nbxy3.out]; rfl⟩
              clear hK K
              try simp only [Act.put, List.setIfInBounds_toArray, List.set_cons_zero, List.set_cons_succ]
              refine wpAnyH_ready (rs := [14]) (by kernel_rfl) (by simp) ?_
              refine AllReadyH.cons rfl (fun K hK => ?_) AllReadyH.nil
              refine step_store_row rfl 28 (.tmp 8) (.tmp 37) rfl (y2.heap.size) #[.string tk, .int .i64 tf, .string ts] rfl rfl 28 _ Nq8_y3.out (by kernel_rfl) rfl (by simp [Value.oneCell']) rfl ?_
              obtain ⟨y4, hx⟩ : ∃ X, y3.setRow (y2.heap.size) #[.string tk, .int .i64 tf, .string ts] = X := ⟨_, rfl⟩
              have Ky4 : Hid (Kept blk w y4) := by show Kept _ _ _; rw [← hx]; exact Ky3.out.setRow HQq8_.out _
              have Zy4 : Hid (y4.heap.size = y3.heap.size) := by show _ = _; rw [← hx]; simp
              have zy0 := Zy0.out
              have zy1 := Zy1.out
              have zy2 := Zy2.out
              have zy3 := Zy3.out
              have OOy4 : Hid (RingOwn (w.heap.size + 1) w4.heap.size y4 (.agg #[.slice g1 n1 c1, .slice g2 n2 c2]) x) := by have h9 := OOy3.out; simp only [Hid] at h9 ⊢; rw [← hx]; exact h9.setRowT2 Nq8_y3.out _
              have RDy4 : Hid (RdAt y4 blk (q + 1 + 1)) := by have h9 := RDy3.out; simp only [Hid] at h9 ⊢; rw [← hx]; exact h9.setRow (by have := HQq8_.out; omega) _
              have Nq8_y4 : Hid (y4.heap[y2.heap.size]? = some (.cells #[.string tk, .int .i64 tf, .string ts] 28 (0, 0))) := by show _ = _; rw [← hx]; exact setRow_heap _ _ _ _ _ _ Nq8_y3.out
              have Nbry4 : Hid (y4.heap[w.heap.size]? = some (.cells #[.slice none 0 0, .slice none 0 0] 26 (0, 0))) := by show _ = _; rw [← hx]; exact (setRow_other _ _ _ _ (by omega)).trans Nbry3.out
              have Nbxy4 : Hid (y4.heap[bx]? = some (.cells #[.slice g1 n1 c1, .slice g2 n2 c2] 26 (0, 0))) := by show _ = _; rw [← hx]; exact (setRow_other _ _ _ _ (by omega)).trans Nbxy3.out
              have Nbky4 : Hid (y4.heap[bx + 1]? = some (.cells #[.string ⟨#[107, 101, 121, 50]⟩, .string ⟨#[111, 116, 104, 101, 114]⟩, .string ⟨#[107]⟩, .string ⟨#[0, 255]⟩, .string ⟨#[108, 97, 115, 116]⟩] 9 (0, 0))) := by show _ = _; rw [← hx]; exact (setRow_other _ _ _ _ (by omega)).trans Nbky3.out
              clear zy0
              clear zy1
              clear zy2
              clear zy3
              rw [hx]
              clear hx
              refine hK.out _ _ ?_ (fun hHeld => ?_)
              · exact ⟨by show y4.cell? ⟨bx, 0, none⟩ = _; rw [cell_of_row _ _ 0 _ _ _ Nbxy4.out]; rfl, by show y4.cell? ⟨bx, 1, none⟩ = _; rw [cell_of_row _ _ 1 _ _ _ Nbxy4.out]; rfl⟩
              clear hK K
              try simp only [Act.put, List.setIfInBounds_toArray, List.set_cons_zero, List.set_cons_succ]
              refine wpAnyH_takeD (i := 15) (d := 9) (v := .bool b) rfl (by kernel_rfl) (by kernel_rfl) (by kernel_rfl) (fun _ _ _ h => h) (Or.inl ⟨by rfl, by intro w hSw; (try dsimp only at hSw); go_simp⟩) (by assumption) rfl ?_
              simp only [Act.put, List.setIfInBounds_toArray, List.set_cons_zero, List.set_cons_succ]
              refine wpAnyH_done (by kernel_rfl) ?_ _
              go_wp2
              go_meet
              case rel =>
                have zy0 := Zy0.out
                have zy1 := Zy1.out
                have zy2 := Zy2.out
                have zy3 := Zy3.out
                have zy4 := Zy4.out
                have hk9 := HQq8_.out
                exact ⟨_, _, _, _, _, rfl, Nq8_y4.out, HTK.out, by omega, by omega, Nbry4.out, Nbxy4.out, Nbky4.out, OOy4.out, RDy4.out, by omega, Ky4.out, by omega⟩
            · skip
              go_simp
              have NA : Hid ((y1.alloc (.cells #[.string ⟨#[]⟩, .int .i64 0, .string ⟨#[]⟩] 28)).heap[y1.heap.size]? = some (.cells #[.string ⟨#[]⟩, .int .i64 0, .string ⟨#[]⟩] 28 (0, 0))) := heap_alloc_last _ _
              obtain ⟨y5, hx⟩ : ∃ X, y1.alloc (.cells #[.string ⟨#[]⟩, .int .i64 0, .string ⟨#[]⟩] 28) = X := ⟨_, rfl⟩
              have hb : Below y1.heap.size y1 y5 := by rw [← hx]; exact (Below.refl _ _).alloc (Nat.le_refl _) _
              have Zy5 : Hid (y1.heap.size < y5.heap.size) := by show _ < _; rw [← hx]; simp
              have Nq8_y5 : Hid (y5.heap[y1.heap.size]? = some (.cells #[.string ⟨#[]⟩, .int .i64 0, .string ⟨#[]⟩] 28 (0, 0))) := by show _ = _; rw [← hx]; exact NA.out
              have Ky5 : Hid (Kept blk w y5) := Ky1.out.trans (Kept.of_below hb)
              have HQq8_ : Hid (w.heap.size ≤ y1.heap.size) := Ky1.out.size
              have OOy5 : Hid (RingOwn (w.heap.size + 1) w4.heap.size y5 (.agg #[.slice g1 n1 c1, .slice g2 n2 c2]) x) := OOy1.out.below hb
              have RDy5 : Hid (RdAt y5 blk (q + 1 + 1)) := RDy1.out.below hb
              have Nbry5 : Hid (y5.heap[w.heap.size]? = some (.cells #[.slice none 0 0, .slice none 0 0] 26 (0, 0))) := (hb.block _ (Array.getElem?_eq_some_iff.1 Nbry1.out).1).trans Nbry1.out
              have Nbxy5 : Hid (y5.heap[bx]? = some (.cells #[.slice g1 n1 c1, .slice g2 n2 c2] 26 (0, 0))) := (hb.block _ (Array.getElem?_eq_some_iff.1 Nbxy1.out).1).trans Nbxy1.out
              have Nbky5 : Hid (y5.heap[bx + 1]? = some (.cells #[.string ⟨#[107, 101, 121, 50]⟩, .string ⟨#[111, 116, 104, 101, 114]⟩, .string ⟨#[107]⟩, .string ⟨#[0, 255]⟩, .string ⟨#[108, 97, 115, 116]⟩] 9 (0, 0))) := (hb.block _ (Array.getElem?_eq_some_iff.1 Nbky1.out).1).trans Nbky1.out
              rw [hx]
              clear hx NA hb
              refine hK.out _ _ ?_ (fun hHeld => ?_)
              · exact ⟨by show y5.cell? ⟨bx, 0, none⟩ = _; rw [cell_of_row _ _ 0 _ _ _ Nbxy5.out]; rfl, by show y5.cell? ⟨bx, 1, none⟩ = _; rw [cell_of_row _ _ 1 _ _ _ Nbxy5.out]; rfl⟩
              clear hK K
              try simp only [Act.put, List.setIfInBounds_toArray, List.set_cons_zero, List.set_cons_succ]
              refine wpAnyH_ready (rs := [9]) (by kernel_rfl) (by simp) ?_
              refine AllReadyH.cons rfl (fun K hK => ?_) AllReadyH.nil
              go_simp
              refine (turn491 _ _ x (fiveAt V5) (M' : Int) OOy5.out.at).mono ?_
              rintro e y6 ⟨tk, tf, ts, b, rfl, htk, hb⟩
              have HTK : Hid (tk.size ≤ 64) := htk
              clear htk
              have Zy6 : Hid (y5.heap.size ≤ y6.heap.size) := hb.size
              have Ky6 : Hid (Kept blk w y6) := Ky5.out.trans (Kept.of_below hb)
              have OOy6 : Hid (RingOwn (w.heap.size + 1) w4.heap.size y6 (.agg #[.slice g1 n1 c1, .slice g2 n2 c2]) x) := OOy5.out.below hb
              have RDy6 : Hid (RdAt y6 blk (q + 1 + 1)) := RDy5.out.below hb
              have Nbry6 : Hid (y6.heap[w.heap.size]? = some (.cells #[.slice none 0 0, .slice none 0 0] 26 (0, 0))) := (hb.block _ (Array.getElem?_eq_some_iff.1 Nbry5.out).1).trans Nbry5.out
              have Nbxy6 : Hid (y6.heap[bx]? = some (.cells #[.slice g1 n1 c1, .slice g2 n2 c2] 26 (0, 0))) := (hb.block _ (Array.getElem?_eq_some_iff.1 Nbxy5.out).1).trans Nbxy5.out
              have Nbky6 : Hid (y6.heap[bx + 1]? = some (.cells #[.string ⟨#[107, 101, 121, 50]⟩, .string ⟨#[111, 116, 104, 101, 114]⟩, .string ⟨#[107]⟩, .string ⟨#[0, 255]⟩, .string ⟨#[108, 97, 115, 116]⟩] 9 (0, 0))) := (hb.block _ (Array.getElem?_eq_some_iff.1 Nbky5.out).1).trans Nbky5.out
              have Nq8_y6 : Hid (y6.heap[y1.heap.size]? = some (.cells #[.string ⟨#[]⟩, .int .i64 0, .string ⟨#[]⟩] 28 (0, 0))) := (hb.block _ (Array.getElem?_eq_some_iff.1 Nq8_y5.out).1).trans Nq8_y5.out
              clear hb
              refine hK.out _ _ ?_ (fun hHeld => ?_)
              · exact ⟨by show y6.cell? ⟨bx, 0, none⟩ = _; rw [cell_of_row _ _ 0 _ _ _ Nbxy6.out]; rfl, by show y6.cell? ⟨bx, 1, none⟩ = _; rw [cell_of_row _ _ 1 _ _ _ Nbxy6.out]; rfl⟩
              clear hK K
              try simp only [Act.put, List.setIfInBounds_toArray, List.set_cons_zero, List.set_cons_succ]
              refine wpAnyH_takeD (i := 10) (d := 26) (v := .tuple #[.agg #[.string tk, .int .i64 tf, .string ts], .bool b]) rfl (by kernel_rfl) (by kernel_rfl) (by kernel_rfl) (fun _ _ _ h => h) (Or.inl ⟨by rfl, by intro w hSw; (try dsimp only at hSw); go_simp⟩) (by assumption) rfl ?_
              simp only [Act.put, List.setIfInBounds_toArray, List.set_cons_zero, List.set_cons_succ]
              refine wpAnyH_takeD (i := 11) (d := 37) (v := .agg #[.string tk, .int .i64 tf, .string ts]) rfl (by kernel_rfl) (by kernel_rfl) (by kernel_rfl) (fun _ _ _ h => h) (Or.inl ⟨by rfl, by intro w hSw; (try dsimp only at hSw); go_simp⟩) (by assumption) rfl ?_
              simp only [Act.put, List.setIfInBounds_toArray, List.set_cons_zero, List.set_cons_succ]
              refine wpAnyH_takeD (i := 12) (d := 38) (v := .bool b) rfl (by kernel_rfl) (by kernel_rfl) (by kernel_rfl) (fun _ _ _ h => h) (Or.inl ⟨by rfl, by intro w hSw; (try dsimp only at hSw); go_simp⟩) (by assumption) rfl ?_
              simp only [Act.put, List.setIfInBounds_toArray, List.set_cons_zero, List.set_cons_succ]
              refine wpAnyH_ready (rs := [14]) (by kernel_rfl) (by simp) ?_
              refine AllReadyH.cons rfl (fun K hK => ?_) AllReadyH.nil
              refine step_store_row rfl 28 (.tmp 8) (.tmp 37) rfl (y1.heap.size) #[.string tk, .int .i64 tf, .string ts] rfl rfl 28 _ Nq8_y6.out (by kernel_rfl) rfl (by simp [Value.oneCell']) rfl ?_
              obtain ⟨y7, hx⟩ : ∃ X, y6.setRow (y1.heap.size) #[.string tk, .int .i64 tf, .string ts] = X := ⟨_, rfl⟩
              have Ky7 : Hid (Kept blk w y7) := by show Kept _ _ _; rw [← hx]; exact Ky6.out.setRow HQq8_.out _
              have Zy7 : Hid (y7.heap.size = y6.heap.size) := by show _ = _; rw [← hx]; simp
              have zy0 := Zy0.out
              have zy1 := Zy1.out
              have zy5 := Zy5.out
              have zy6 := Zy6.out
              have OOy7 : Hid (RingOwn (w.heap.size + 1) w4.heap.size y7 (.agg #[.slice g1 n1 c1, .slice g2 n2 c2]) x) := by have h9 := OOy6.out; simp only [Hid] at h9 ⊢; rw [← hx]; exact h9.setRowT2 Nq8_y6.out _
              have RDy7 : Hid (RdAt y7 blk (q + 1 + 1)) := by have h9 := RDy6.out; simp only [Hid] at h9 ⊢; rw [← hx]; exact h9.setRow (by have := HQq8_.out; omega) _
              have Nq8_y7 : Hid (y7.heap[y1.heap.size]? = some (.cells #[.string tk, .int .i64 tf, .string ts] 28 (0, 0))) := by show _ = _; rw [← hx]; exact setRow_heap _ _ _ _ _ _ Nq8_y6.out
              have Nbry7 : Hid (y7.heap[w.heap.size]? = some (.cells #[.slice none 0 0, .slice none 0 0] 26 (0, 0))) := by show _ = _; rw [← hx]; exact (setRow_other _ _ _ _ (by omega)).trans Nbry6.out
              have Nbxy7 : Hid (y7.heap[bx]? = some (.cells #[.slice g1 n1 c1, .slice g2 n2 c2] 26 (0, 0))) := by show _ = _; rw [← hx]; exact (setRow_other _ _ _ _ (by omega)).trans Nbxy6.out
              have Nbky7 : Hid (y7.heap[bx + 1]? = some (.cells #[.string ⟨#[107, 101, 121, 50]⟩, .string ⟨#[111, 116, 104, 101, 114]⟩, .string ⟨#[107]⟩, .string ⟨#[0, 255]⟩, .string ⟨#[108, 97, 115, 116]⟩] 9 (0, 0))) := by show _ = _; rw [← hx]; exact (setRow_other _ _ _ _ (by omega)).trans Nbky6.out
              clear zy0
              clear zy1
              clear zy5
              clear zy6
              rw [hx]
              clear hx
              refine hK.out _ _ ?_ (fun hHeld => ?_)
              · exact ⟨by show y7.cell? ⟨bx, 0, none⟩ = _; rw [cell_of_row _ _ 0 _ _ _ Nbxy7.out]; rfl, by show y7.cell? ⟨bx, 1, none⟩ = _; rw [cell_of_row _ _ 1 _ _ _ Nbxy7.out]; rfl⟩
              clear hK K
              try simp only [Act.put, List.setIfInBounds_toArray, List.set_cons_zero, List.set_cons_succ]
              refine wpAnyH_takeD (i := 15) (d := 9) (v := .bool b) rfl (by kernel_rfl) (by kernel_rfl) (by kernel_rfl) (fun _ _ _ h => h) (Or.inl ⟨by rfl, by intro w hSw; (try dsimp only at hSw); go_simp⟩) (by assumption) rfl ?_
              simp only [Act.put, List.setIfInBounds_toArray, List.set_cons_zero, List.set_cons_succ]
              refine wpAnyH_done (by kernel_rfl) ?_ _
              go_wp2
              go_meet
              case rel =>
                have zy0 := Zy0.out
                have zy1 := Zy1.out
                have zy5 := Zy5.out
                have zy6 := Zy6.out
                have zy7 := Zy7.out
                have hk9 := HQq8_.out
                exact ⟨_, _, _, _, _, rfl, Nq8_y7.out, HTK.out, by omega, by omega, Nbry7.out, Nbxy7.out, Nbky7.out, OOy7.out, RDy7.out, by omega, Ky7.out, by omega⟩
          · skip
            go_simp
            have NA : Hid ((y1.alloc (.cells #[.string ⟨#[]⟩, .int .i64 0, .string ⟨#[]⟩] 28)).heap[y1.heap.size]? = some (.cells #[.string ⟨#[]⟩, .int .i64 0, .string ⟨#[]⟩] 28 (0, 0))) := heap_alloc_last _ _
            obtain ⟨y8, hx⟩ : ∃ X, y1.alloc (.cells #[.string ⟨#[]⟩, .int .i64 0, .string ⟨#[]⟩] 28) = X := ⟨_, rfl⟩
            have hb : Below y1.heap.size y1 y8 := by rw [← hx]; exact (Below.refl _ _).alloc (Nat.le_refl _) _
            have Zy8 : Hid (y1.heap.size < y8.heap.size) := by show _ < _; rw [← hx]; simp
            have Nq8_y8 : Hid (y8.heap[y1.heap.size]? = some (.cells #[.string ⟨#[]⟩, .int .i64 0, .string ⟨#[]⟩] 28 (0, 0))) := by show _ = _; rw [← hx]; exact NA.out
            have Ky8 : Hid (Kept blk w y8) := Ky1.out.trans (Kept.of_below hb)
            have HQq8_ : Hid (w.heap.size ≤ y1.heap.size) := Ky1.out.size
            have OOy8 : Hid (RingOwn (w.heap.size + 1) w4.heap.size y8 (.agg #[.slice g1 n1 c1, .slice g2 n2 c2]) x) := OOy1.out.below hb
            have RDy8 : Hid (RdAt y8 blk (q + 1 + 1)) := RDy1.out.below hb
            have Nbry8 : Hid (y8.heap[w.heap.size]? = some (.cells #[.slice none 0 0, .slice none 0 0] 26 (0, 0))) := (hb.block _ (Array.getElem?_eq_some_iff.1 Nbry1.out).1).trans Nbry1.out
            have Nbxy8 : Hid (y8.heap[bx]? = some (.cells #[.slice g1 n1 c1, .slice g2 n2 c2] 26 (0, 0))) := (hb.block _ (Array.getElem?_eq_some_iff.1 Nbxy1.out).1).trans Nbxy1.out
            have Nbky8 : Hid (y8.heap[bx + 1]? = some (.cells #[.string ⟨#[107, 101, 121, 50]⟩, .string ⟨#[111, 116, 104, 101, 114]⟩, .string ⟨#[107]⟩, .string ⟨#[0, 255]⟩, .string ⟨#[108, 97, 115, 116]⟩] 9 (0, 0))) := (hb.block _ (Array.getElem?_eq_some_iff.1 Nbky1.out).1).trans Nbky1.out
            rw [hx]
            clear hx NA hb
            refine hK.out _ _ ?_ (fun hHeld => ?_)
            · exact ⟨by show y8.cell? ⟨bx, 0, none⟩ = _; rw [cell_of_row _ _ 0 _ _ _ Nbxy8.out]; rfl, by show y8.cell? ⟨bx, 1, none⟩ = _; rw [cell_of_row _ _ 1 _ _ _ Nbxy8.out]; rfl⟩
            clear hK K
            try simp only [Act.put, List.setIfInBounds_toArray, List.set_cons_zero, List.set_cons_succ]
            refine wpAnyH_ready (rs := [7]) (by kernel_rfl) (by simp) ?_
            refine AllReadyH.cons rfl (fun K hK => ?_) AllReadyH.nil
            have k9 : y8.cell? ⟨bx + 1, V5, none⟩ = some (.string (fiveAt V5)) := five_cells Nbky8.out hV5
            go_simp
            refine hK.out _ _ ?_ (fun hHeld => ?_)
            · exact ⟨by show y8.cell? ⟨bx, 0, none⟩ = _; rw [cell_of_row _ _ 0 _ _ _ Nbxy8.out]; rfl, by show y8.cell? ⟨bx, 1, none⟩ = _; rw [cell_of_row _ _ 1 _ _ _ Nbxy8.out]; rfl⟩
            clear hK K
            try simp only [Act.put, List.setIfInBounds_toArray, List.set_cons_zero, List.set_cons_succ]
            refine wpAnyH_ready (rs := [9]) (by kernel_rfl) (by simp) ?_
            refine AllReadyH.cons rfl (fun K hK => ?_) AllReadyH.nil
            go_simp
            refine (turn491 _ _ x (fiveAt V5) (M' : Int) OOy8.out.at).mono ?_
            rintro e y9 ⟨tk, tf, ts, b, rfl, htk, hb⟩
            have HTK : Hid (tk.size ≤ 64) := htk
            clear htk
            have Zy9 : Hid (y8.heap.size ≤ y9.heap.size) := hb.size
            have Ky9 : Hid (Kept blk w y9) := Ky8.out.trans (Kept.of_below hb)
            have OOy9 : Hid (RingOwn (w.heap.size + 1) w4.heap.size y9 (.agg #[.slice g1 n1 c1, .slice g2 n2 c2]) x) := OOy8.out.below hb
            have RDy9 : Hid (RdAt y9 blk (q + 1 + 1)) := RDy8.out.below hb
            have Nbry9 : Hid (y9.heap[w.heap.size]? = some (.cells #[.slice none 0 0, .slice none 0 0] 26 (0, 0))) := (hb.block _ (Array.getElem?_eq_some_iff.1 Nbry8.out).1).trans Nbry8.out
            have Nbxy9 : Hid (y9.heap[bx]? = some (.cells #[.slice g1 n1 c1, .slice g2 n2 c2] 26 (0, 0))) := (hb.block _ (Array.getElem?_eq_some_iff.1 Nbxy8.out).1).trans Nbxy8.out
            have Nbky9 : Hid (y9.heap[bx + 1]? = some (.cells #[.string ⟨#[107, 101, 121, 50]⟩, .string ⟨#[111, 116, 104, 101, 114]⟩, .string ⟨#[107]⟩, .string ⟨#[0, 255]⟩, .string ⟨#[108, 97, 115, 116]⟩] 9 (0, 0))) := (hb.block _ (Array.getElem?_eq_some_iff.1 Nbky8.out).1).trans Nbky8.out
            have Nq8_y9 : Hid (y9.heap[y1.heap.size]? = some (.cells #[.string ⟨#[]⟩, .int .i64 0, .string ⟨#[]⟩] 28 (0, 0))) := (hb.block _ (Array.getElem?_eq_some_iff.1 Nq8_y8.out).1).trans Nq8_y8.out
            clear hb
            refine hK.out _ _ ?_ (fun hHeld => ?_)
            · exact ⟨by show y9.cell? ⟨bx, 0, none⟩ = _; rw [cell_of_row _ _ 0 _ _ _ Nbxy9.out]; rfl, by show y9.cell? ⟨bx, 1, none⟩ = _; rw [cell_of_row _ _ 1 _ _ _ Nbxy9.out]; rfl⟩
            clear hK K
            try simp only [Act.put, List.setIfInBounds_toArray, List.set_cons_zero, List.set_cons_succ]
            refine wpAnyH_takeD (i := 10) (d := 26) (v := .tuple #[.agg #[.string tk, .int .i64 tf, .string ts], .bool b]) rfl (by kernel_rfl) (by kernel_rfl) (by kernel_rfl) (fun _ _ _ h => h) (Or.inl ⟨by rfl, by intro w hSw; (try dsimp only at hSw); go_simp⟩) (by assumption) rfl ?_
            simp only [Act.put, List.setIfInBounds_toArray, List.set_cons_zero, List.set_cons_succ]
            refine wpAnyH_takeD (i := 11) (d := 37) (v := .agg #[.string tk, .int .i64 tf, .string ts]) rfl (by kernel_rfl) (by kernel_rfl) (by kernel_rfl) (fun _ _ _ h => h) (Or.inl ⟨by rfl, by intro w hSw; (try dsimp only at hSw); go_simp⟩) (by assumption) rfl ?_
            simp only [Act.put, List.setIfInBounds_toArray, List.set_cons_zero, List.set_cons_succ]
            refine wpAnyH_takeD (i := 12) (d := 38) (v := .bool b) rfl (by kernel_rfl) (by kernel_rfl) (by kernel_rfl) (fun _ _ _ h => h) (Or.inl ⟨by rfl, by intro w hSw; (try dsimp only at hSw); go_simp⟩) (by assumption) rfl ?_
            simp only [Act.put, List.setIfInBounds_toArray, List.set_cons_zero, List.set_cons_succ]
            refine wpAnyH_ready (rs := [14]) (by kernel_rfl) (by simp) ?_
            refine AllReadyH.cons rfl (fun K hK => ?_) AllReadyH.nil
            refine step_store_row rfl 28 (.tmp 8) (.tmp 37) rfl (y1.heap.size) #[.string tk, .int .i64 tf, .string ts] rfl rfl 28 _ Nq8_y9.out (by kernel_rfl) rfl (by simp [Value.oneCell']) rfl ?_
            obtain ⟨y10, hx⟩ : ∃ X, y9.setRow (y1.heap.size) #[.string tk, .int .i64 tf, .string ts] = X := ⟨_, rfl⟩
            have Ky10 : Hid (Kept blk w y10) := by show Kept _ _ _; rw [← hx]; exact Ky9.out.setRow HQq8_.out _
            have Zy10 : Hid (y10.heap.size = y9.heap.size) := by show _ = _; rw [← hx]; simp
            have zy0 := Zy0.out
            have zy1 := Zy1.out
            have zy8 := Zy8.out
            have zy9 := Zy9.out
            have OOy10 : Hid (RingOwn (w.heap.size + 1) w4.heap.size y10 (.agg #[.slice g1 n1 c1, .slice g2 n2 c2]) x) := by have h9 := OOy9.out; simp only [Hid] at h9 ⊢; rw [← hx]; exact h9.setRowT2 Nq8_y9.out _
            have RDy10 : Hid (RdAt y10 blk (q + 1 + 1)) := by have h9 := RDy9.out; simp only [Hid] at h9 ⊢; rw [← hx]; exact h9.setRow (by have := HQq8_.out; omega) _
            have Nq8_y10 : Hid (y10.heap[y1.heap.size]? = some (.cells #[.string tk, .int .i64 tf, .string ts] 28 (0, 0))) := by show _ = _; rw [← hx]; exact setRow_heap _ _ _ _ _ _ Nq8_y9.out
            have Nbry10 : Hid (y10.heap[w.heap.size]? = some (.cells #[.slice none 0 0, .slice none 0 0] 26 (0, 0))) := by show _ = _; rw [← hx]; exact (setRow_other _ _ _ _ (by omega)).trans Nbry9.out
            have Nbxy10 : Hid (y10.heap[bx]? = some (.cells #[.slice g1 n1 c1, .slice g2 n2 c2] 26 (0, 0))) := by show _ = _; rw [← hx]; exact (setRow_other _ _ _ _ (by omega)).trans Nbxy9.out
            have Nbky10 : Hid (y10.heap[bx + 1]? = some (.cells #[.string ⟨#[107, 101, 121, 50]⟩, .string ⟨#[111, 116, 104, 101, 114]⟩, .string ⟨#[107]⟩, .string ⟨#[0, 255]⟩, .string ⟨#[108, 97, 115, 116]⟩] 9 (0, 0))) := by show _ = _; rw [← hx]; exact (setRow_other _ _ _ _ (by omega)).trans Nbky9.out
            clear zy0
            clear zy1
            clear zy8
            clear zy9
            rw [hx]
            clear hx
            refine hK.out _ _ ?_ (fun hHeld => ?_)
            · exact ⟨by show y10.cell? ⟨bx, 0, none⟩ = _; rw [cell_of_row _ _ 0 _ _ _ Nbxy10.out]; rfl, by show y10.cell? ⟨bx, 1, none⟩ = _; rw [cell_of_row _ _ 1 _ _ _ Nbxy10.out]; rfl⟩
            clear hK K
            try simp only [Act.put, List.setIfInBounds_toArray, List.set_cons_zero, List.set_cons_succ]
            refine wpAnyH_takeD (i := 15) (d := 9) (v := .bool b) rfl (by kernel_rfl) (by kernel_rfl) (by kernel_rfl) (fun _ _ _ h => h) (Or.inl ⟨by rfl, by intro w hSw; (try dsimp only at hSw); go_simp⟩) (by assumption) rfl ?_
            simp only [Act.put, List.setIfInBounds_toArray, List.set_cons_zero, List.set_cons_succ]
            refine wpAnyH_done (by kernel_rfl) ?_ _
            go_wp2
            go_meet
            case rel =>
              have zy0 := Zy0.out
              have zy1 := Zy1.out
              have zy8 := Zy8.out
              have zy9 := Zy9.out
              have zy10 := Zy10.out
              have hk9 := HQq8_.out
              exact ⟨_, _, _, _, _, rfl, Nq8_y10.out, HTK.out, by omega, by omega, Nbry10.out, Nbxy10.out, Nbky10.out, OOy10.out, RDy10.out, by omega, Ky10.out, by omega⟩
        · skip
          go_simp
          have NA : Hid ((y0.alloc (.cells #[.string ⟨#[]⟩, .int .i64 0, .string ⟨#[]⟩] 28)).heap[y0.heap.size]? = some (.cells #[.string ⟨#[]⟩, .int .i64 0, .string ⟨#[]⟩] 28 (0, 0))) := heap_alloc_last _ _
          obtain ⟨y11, hx⟩ : ∃ X, y0.alloc (.cells #[.string ⟨#[]⟩, .int .i64 0, .string ⟨#[]⟩] 28) = X := ⟨_, rfl⟩
          have hb : Below y0.heap.size y0 y11 := by rw [← hx]; exact (Below.refl _ _).alloc (Nat.le_refl _) _
          have Zy11 : Hid (y0.heap.size < y11.heap.size) := by show _ < _; rw [← hx]; simp
          have Nq8_y11 : Hid (y11.heap[y0.heap.size]? = some (.cells #[.string ⟨#[]⟩, .int .i64 0, .string ⟨#[]⟩] 28 (0, 0))) := by show _ = _; rw [← hx]; exact NA.out
          have Ky11 : Hid (Kept blk w y11) := Ky0.out.trans (Kept.of_below hb)
          have HQq8_ : Hid (w.heap.size ≤ y0.heap.size) := Ky0.out.size
          have RDy11 : Hid (RdAt y11 blk (q + 1)) := RDy0.out.below hb
          have OOy11 : Hid (RingOwn (w.heap.size + 1) w4.heap.size y11 (.agg #[.slice g1 n1 c1, .slice g2 n2 c2]) x) := OOy0.out.below hb
          have Nbry11 : Hid (y11.heap[w.heap.size]? = some (.cells #[.slice none 0 0, .slice none 0 0] 26 (0, 0))) := (hb.block _ (Array.getElem?_eq_some_iff.1 Nbry0.out).1).trans Nbry0.out
          have Nbxy11 : Hid (y11.heap[bx]? = some (.cells #[.slice g1 n1 c1, .slice g2 n2 c2] 26 (0, 0))) := (hb.block _ (Array.getElem?_eq_some_iff.1 Nbxy0.out).1).trans Nbxy0.out
          have Nbky11 : Hid (y11.heap[bx + 1]? = some (.cells #[.string ⟨#[107, 101, 121, 50]⟩, .string ⟨#[111, 116, 104, 101, 114]⟩, .string ⟨#[107]⟩, .string ⟨#[0, 255]⟩, .string ⟨#[108, 97, 115, 116]⟩] 9 (0, 0))) := (hb.block _ (Array.getElem?_eq_some_iff.1 Nbky0.out).1).trans Nbky0.out
          rw [hx]
          clear hx NA hb
          refine hK.out _ _ ?_ (fun hHeld => ?_)
          · exact ⟨by show y11.cell? ⟨bx, 0, none⟩ = _; rw [cell_of_row _ _ 0 _ _ _ Nbxy11.out]; rfl, by show y11.cell? ⟨bx, 1, none⟩ = _; rw [cell_of_row _ _ 1 _ _ _ Nbxy11.out]; rfl⟩
          clear hK K
          try simp only [Act.put, List.setIfInBounds_toArray, List.set_cons_zero, List.set_cons_succ]
          refine wpAnyH_ready (rs := [5]) (by kernel_rfl) (by simp) ?_
          refine AllReadyH.cons rfl (fun K hK => ?_) AllReadyH.nil
          go_simp
          refine (pick_any _ blk (q + 1) 5 RDy11.out (by omega) (by omega)).mono ?_
          rintro e y12 ⟨v5, rfl, hv0, hv1, hr, hb⟩
          obtain ⟨V5, rfl⟩ : ∃ V : Nat, v5 = (V : Int) := ⟨v5.toNat, by omega⟩
          have hV5 : V5 < 5 := by have := hv1 (by omega); omega
          have hV5i : (0 : Int) ≤ (V5 : Int) := by omega
          have hV5j : (V5 : Int) < 5 := by omega
          clear hv0 hv1
          have Zy12 : Hid (y11.heap.size ≤ y12.heap.size) := hb.size
          have Ky12 : Hid (Kept blk w y12) := Ky11.out.trans hb
          have OOy12 : Hid (RingOwn (w.heap.size + 1) w4.heap.size y12 (.agg #[.slice g1 n1 c1, .slice g2 n2 c2]) x) := OOy11.out.kept hb (by omega)
          have Nbry12 : Hid (y12.heap[w.heap.size]? = some (.cells #[.slice none 0 0, .slice none 0 0] 26 (0, 0))) := (hb.block _ (Array.getElem?_eq_some_iff.1 Nbry11.out).1 (by first | omega | (have := HQbr.out; omega))).trans Nbry11.out
          have Nbxy12 : Hid (y12.heap[bx]? = some (.cells #[.slice g1 n1 c1, .slice g2 n2 c2] 26 (0, 0))) := (hb.block _ (Array.getElem?_eq_some_iff.1 Nbxy11.out).1 (by first | omega | (have := HQbx.out; omega))).trans Nbxy11.out
          have Nbky12 : Hid (y12.heap[bx + 1]? = some (.cells #[.string ⟨#[107, 101, 121, 50]⟩, .string ⟨#[111, 116, 104, 101, 114]⟩, .string ⟨#[107]⟩, .string ⟨#[0, 255]⟩, .string ⟨#[108, 97, 115, 116]⟩] 9 (0, 0))) := (hb.block _ (Array.getElem?_eq_some_iff.1 Nbky11.out).1 (by first | omega | (have := HQbk.out; omega))).trans Nbky11.out
          have Nq8_y12 : Hid (y12.heap[y0.heap.size]? = some (.cells #[.string ⟨#[]⟩, .int .i64 0, .string ⟨#[]⟩] 28 (0, 0))) := (hb.block _ (Array.getElem?_eq_some_iff.1 Nq8_y11.out).1 (by first | omega | (have := HQq8_.out; omega))).trans Nq8_y11.out
          have RDy12 : Hid (RdAt y12 blk (q + 1 + 1)) := hr
          clear hb
          refine hK.out _ _ ?_ (fun hHeld => ?_)
          · exact ⟨by show y12.cell? ⟨bx, 0, none⟩ = _; rw [cell_of_row _ _ 0 _ _ _ Nbxy12.out]; rfl, by show y12.cell? ⟨bx, 1, none⟩ = _; rw [cell_of_row _ _ 1 _ _ _ Nbxy12.out]; rfl⟩
          clear hK K
          try simp only [Act.put, List.setIfInBounds_toArray, List.set_cons_zero, List.set_cons_succ]
          refine wpAnyH_takeD (i := 6) (d := 33) (v := .pointer (some ⟨bx + 1, V5, none⟩)) rfl (by kernel_rfl) (by kernel_rfl) (by kernel_rfl) (fun _ _ _ h => h) (Or.inl ⟨by rfl, by intro w hSw; (try dsimp only at hSw); go_simp⟩) (by assumption) rfl ?_
          simp only [Act.put, List.setIfInBounds_toArray, List.set_cons_zero, List.set_cons_succ]
          refine wpAnyH_ready (rs := [7]) (by kernel_rfl) (by simp) ?_
          refine AllReadyH.cons rfl (fun K hK => ?_) AllReadyH.nil
          have k9 : y12.cell? ⟨bx + 1, V5, none⟩ = some (.string (fiveAt V5)) := five_cells Nbky12.out hV5
          go_simp
          refine hK.out _ _ ?_ (fun hHeld => ?_)
          · exact ⟨by show y12.cell? ⟨bx, 0, none⟩ = _; rw [cell_of_row _ _ 0 _ _ _ Nbxy12.out]; rfl, by show y12.cell? ⟨bx, 1, none⟩ = _; rw [cell_of_row _ _ 1 _ _ _ Nbxy12.out]; rfl⟩
          clear hK K
          try simp only [Act.put, List.setIfInBounds_toArray, List.set_cons_zero, List.set_cons_succ]
          refine wpAnyH_ready (rs := [9]) (by kernel_rfl) (by simp) ?_
          refine AllReadyH.cons rfl (fun K hK => ?_) AllReadyH.nil
          go_simp
          refine (turn491 _ _ x (fiveAt V5) (M' : Int) OOy12.out.at).mono ?_
          rintro e y13 ⟨tk, tf, ts, b, rfl, htk, hb⟩
          have HTK : Hid (tk.size ≤ 64) := htk
          clear htk
          have Zy13 : Hid (y12.heap.size ≤ y13.heap.size) := hb.size
          have Ky13 : Hid (Kept blk w y13) := Ky12.out.trans (Kept.of_below hb)
          have OOy13 : Hid (RingOwn (w.heap.size + 1) w4.heap.size y13 (.agg #[.slice g1 n1 c1, .slice g2 n2 c2]) x) := OOy12.out.below hb
          have RDy13 : Hid (RdAt y13 blk (q + 1 + 1)) := RDy12.out.below hb
          have Nbry13 : Hid (y13.heap[w.heap.size]? = some (.cells #[.slice none 0 0, .slice none 0 0] 26 (0, 0))) := (hb.block _ (Array.getElem?_eq_some_iff.1 Nbry12.out).1).trans Nbry12.out
          have Nbxy13 : Hid (y13.heap[bx]? = some (.cells #[.slice g1 n1 c1, .slice g2 n2 c2] 26 (0, 0))) := (hb.block _ (Array.getElem?_eq_some_iff.1 Nbxy12.out).1).trans Nbxy12.out
          have Nbky13 : Hid (y13.heap[bx + 1]? = some (.cells #[.string ⟨#[107, 101, 121, 50]⟩, .string ⟨#[111, 116, 104, 101, 114]⟩, .string ⟨#[107]⟩, .string ⟨#[0, 255]⟩, .string ⟨#[108, 97, 115, 116]⟩] 9 (0, 0))) := (hb.block _ (Array.getElem?_eq_some_iff.1 Nbky12.out).1).trans Nbky12.out
          have Nq8_y13 : Hid (y13.heap[y0.heap.size]? = some (.cells #[.string ⟨#[]⟩, .int .i64 0, .string ⟨#[]⟩] 28 (0, 0))) := (hb.block _ (Array.getElem?_eq_some_iff.1 Nq8_y12.out).1).trans Nq8_y12.out
          clear hb
          refine hK.out _ _ ?_ (fun hHeld => ?_)
          · exact ⟨by show y13.cell? ⟨bx, 0, none⟩ = _; rw [cell_of_row _ _ 0 _ _ _ Nbxy13.out]; rfl, by show y13.cell? ⟨bx, 1, none⟩ = _; rw [cell_of_row _ _ 1 _ _ _ Nbxy13.out]; rfl⟩
          clear hK K
          try simp only [Act.put, List.setIfInBounds_toArray, List.set_cons_zero, List.set_cons_succ]
          refine wpAnyH_takeD (i := 10) (d := 26) (v := .tuple #[.agg #[.string tk, .int .i64 tf, .string ts], .bool b]) rfl (by kernel_rfl) (by kernel_rfl) (by kernel_rfl) (fun _ _ _ h => h) (Or.inl ⟨by rfl, by intro w hSw; (try dsimp only at hSw); go_simp⟩) (by assumption) rfl ?_
          simp only [Act.put, List.setIfInBounds_toArray, List.set_cons_zero, List.set_cons_succ]
          refine wpAnyH_takeD (i := 11) (d := 37) (v := .agg #[.string tk, .int .i64 tf, .string ts]) rfl (by kernel_rfl) (by kernel_rfl) (by kernel_rfl) (fun _ _ _ h => h) (Or.inl ⟨by rfl, by intro w hSw; (try dsimp only at hSw); go_simp⟩) (by assumption) rfl ?_
          simp only [Act.put, List.setIfInBounds_toArray, List.set_cons_zero, List.set_cons_succ]
          refine wpAnyH_takeD (i := 12) (d := 38) (v := .bool b) rfl (by kernel_rfl) (by kernel_rfl) (by kernel_rfl) (fun _ _ _ h => h) (Or.inl ⟨by rfl, by intro w hSw; (try dsimp only at hSw); go_simp⟩) (by assumption) rfl ?_
          simp only [Act.put, List.setIfInBounds_toArray, List.set_cons_zero, List.set_cons_succ]
          refine wpAnyH_ready (rs := [14]) (by kernel_rfl) (by simp) ?_
          refine AllReadyH.cons rfl (fun K hK => ?_) AllReadyH.nil
          refine step_store_row rfl 28 (.tmp 8) (.tmp 37) rfl (y0.heap.size) #[.string tk, .int .i64 tf, .string ts] rfl rfl 28 _ Nq8_y13.out (by kernel_rfl) rfl (by simp [Value.oneCell']) rfl ?_
          obtain ⟨y14, hx⟩ : ∃ X, y13.setRow (y0.heap.size) #[.string tk, .int .i64 tf, .string ts] = X := ⟨_, rfl⟩
          have Ky14 : Hid (Kept blk w y14) := by show Kept _ _ _; rw [← hx]; exact Ky13.out.setRow HQq8_.out _
          have Zy14 : Hid (y14.heap.size = y13.heap.size) := by show _ = _; rw [← hx]; simp
          have zy0 := Zy0.out
          have zy11 := Zy11.out
          have zy12 := Zy12.out
          have zy13 := Zy13.out
          have OOy14 : Hid (RingOwn (w.heap.size + 1) w4.heap.size y14 (.agg #[.slice g1 n1 c1, .slice g2 n2 c2]) x) := by have h9 := OOy13.out; simp only [Hid] at h9 ⊢; rw [← hx]; exact h9.setRowT2 Nq8_y13.out _
          have RDy14 : Hid (RdAt y14 blk (q + 1 + 1)) := by have h9 := RDy13.out; simp only [Hid] at h9 ⊢; rw [← hx]; exact h9.setRow (by have := HQq8_.out; omega) _
          have Nq8_y14 : Hid (y14.heap[y0.heap.size]? = some (.cells #[.string tk, .int .i64 tf, .string ts] 28 (0, 0))) := by show _ = _; rw [← hx]; exact setRow_heap _ _ _ _ _ _ Nq8_y13.out
          have Nbry14 : Hid (y14.heap[w.heap.size]? = some (.cells #[.slice none 0 0, .slice none 0 0] 26 (0, 0))) := by show _ = _; rw [← hx]; exact (setRow_other _ _ _ _ (by omega)).trans Nbry13.out
          have Nbxy14 : Hid (y14.heap[bx]? = some (.cells #[.slice g1 n1 c1, .slice g2 n2 c2] 26 (0, 0))) := by show _ = _; rw [← hx]; exact (setRow_other _ _ _ _ (by omega)).trans Nbxy13.out
          have Nbky14 : Hid (y14.heap[bx + 1]? = some (.cells #[.string ⟨#[107, 101, 121, 50]⟩, .string ⟨#[111, 116, 104, 101, 114]⟩, .string ⟨#[107]⟩, .string ⟨#[0, 255]⟩, .string ⟨#[108, 97, 115, 116]⟩] 9 (0, 0))) := by show _ = _; rw [← hx]; exact (setRow_other _ _ _ _ (by omega)).trans Nbky13.out
          clear zy0
          clear zy11
          clear zy12
          clear zy13
          rw [hx]
          clear hx
          refine hK.out _ _ ?_ (fun hHeld => ?_)
          · exact ⟨by show y14.cell? ⟨bx, 0, none⟩ = _; rw [cell_of_row _ _ 0 _ _ _ Nbxy14.out]; rfl, by show y14.cell? ⟨bx, 1, none⟩ = _; rw [cell_of_row _ _ 1 _ _ _ Nbxy14.out]; rfl⟩
          clear hK K
          try simp only [Act.put, List.setIfInBounds_toArray, List.set_cons_zero, List.set_cons_succ]
          refine wpAnyH_takeD (i := 15) (d := 9) (v := .bool b) rfl (by kernel_rfl) (by kernel_rfl) (by kernel_rfl) (fun _ _ _ h => h) (Or.inl ⟨by rfl, by intro w hSw; (try dsimp only at hSw); go_simp⟩) (by assumption) rfl ?_
          simp only [Act.put, List.setIfInBounds_toArray, List.set_cons_zero, List.set_cons_succ]
          refine wpAnyH_done (by kernel_rfl) ?_ _
          go_wp2
          go_meet
          case rel =>
            have zy0 := Zy0.out
            have zy11 := Zy11.out
            have zy12 := Zy12.out
            have zy13 := Zy13.out
            have zy14 := Zy14.out
            have hk9 := HQq8_.out
            exact ⟨_, _, _, _, _, rfl, Nq8_y14.out, HTK.out, by omega, by omega, Nbry14.out, Nbxy14.out, Nbky14.out, OOy14.out, RDy14.out, by omega, Ky14.out, by omega⟩
      case rest =>
        obtain ⟨w5, hw5⟩ : ∃ x, x = wc := ⟨_, rfl⟩
        subst hw5
        obtain ⟨b8, tk, tf, ts, q', hp8, hn8, htk, l8, hb8, hnr, hnx, hnk, ho, hr, hq', hk, hz45⟩ := hcut
        subst hp8
        have Nbrw5 : Hid (w5.heap[w.heap.size]? = some (.cells #[.slice none 0 0, .slice none 0 0] 26 (0, 0))) := hnr
        have Nbxw5 : Hid (w5.heap[bx]? = some (.cells #[.slice g1 n1 c1, .slice g2 n2 c2] 26 (0, 0))) := hnx
        have Nbkw5 : Hid (w5.heap[bx + 1]? = some (.cells #[.string ⟨#[107, 101, 121, 50]⟩, .string ⟨#[111, 116, 104, 101, 114]⟩, .string ⟨#[107]⟩, .string ⟨#[0, 255]⟩, .string ⟨#[108, 97, 115, 116]⟩] 9 (0, 0))) := hnk
        have OOw5 : Hid (RingOwn (w.heap.size + 1) w4.heap.size w5 (.agg #[.slice g1 n1 c1, .slice g2 n2 c2]) x) := ho
        have RDw5 : Hid (RdAt w5 blk q') := hr
        have Kw5 : Hid (Kept blk w w5) := hk
        have hxl5 : bx + 1 < w5.heap.size := (Array.getElem?_eq_some_iff.1 hnk).1
        have x0 : w5.cell? ⟨bx, 0, none⟩ = some (.slice g1 n1 c1) := by rw [cell_of_row _ _ 0 _ _ _ hnx]; rfl
        have x1 : w5.cell? ⟨bx, 1, none⟩ = some (.slice g2 n2 c2) := by rw [cell_of_row _ _ 1 _ _ _ hnx]; rfl
        have y0 : w5.cell? ⟨b8, 0, none⟩ = some (.string tk) := by rw [cell_of_row _ _ 0 _ _ _ hn8]; rfl
        have y1 : w5.cell? ⟨b8, 1, none⟩ = some (.int .i64 tf) := by rw [cell_of_row _ _ 1 _ _ _ hn8]; rfl
        have y2 : w5.cell? ⟨b8, 2, none⟩ = some (.string ts) := by rw [cell_of_row _ _ 2 _ _ _ hn8]; rfl
        clear hnr hnx hnk ho hr hk hn8
        go_wp2_with fail
        refine (specRingTake_own w5 _ x tk tf ts OOw5.out.at (by unfold maxLen; omega)).mono ?_
        rintro e w6 ⟨v6, rfl, ho6, hb6⟩
        obtain ⟨h1, k1, d1, h2, k2, d2, rfl⟩ := ho6.at.form2
        have Nbrw6 : Hid (w6.heap[w.heap.size]? = some (.cells #[.slice none 0 0, .slice none 0 0] 26 (0, 0))) := (hb6.block _ (by omega)).trans Nbrw5.out
        have Nbxw6 : Hid (w6.heap[bx]? = some (.cells #[.slice g1 n1 c1, .slice g2 n2 c2] 26 (0, 0))) := (hb6.block _ (by omega)).trans Nbxw5.out
        have Nbkw6 : Hid (w6.heap[bx + 1]? = some (.cells #[.string ⟨#[107, 101, 121, 50]⟩, .string ⟨#[111, 116, 104, 101, 114]⟩, .string ⟨#[107]⟩, .string ⟨#[0, 255]⟩, .string ⟨#[108, 97, 115, 116]⟩] 9 (0, 0))) := (hb6.block _ (by omega)).trans Nbkw5.out
        have RDw6 : Hid (RdAt w6 blk q') := RDw5.out.keep hb6
        have Kw6 : Hid (Kept blk w w6) := Kw5.out.trans (Kept.of_below hb6)
        have Ow6 : Hid (RingOwn (w.heap.size + 1) w6.heap.size w6 (.agg #[.slice h1 k1 d1, .slice h2 k2 d2]) (rtkT x (tk, tf, ts))) := ho6.weak480 (by omega) (Nat.le_refl _)
        have hxl6 : bx + 1 < w6.heap.size := Nat.lt_of_lt_of_le hxl5 hb6.size
        obtain ⟨V6, hV6⟩ : ∃ X, w6.setRow bx #[.slice h1 k1 d1, .slice h2 k2 d2] = X := ⟨_, rfl⟩
        have NrV : Hid (V6.heap[w.heap.size]? = some (.cells #[.slice none 0 0, .slice none 0 0] 26 (0, 0))) := by show _ = _; rw [← hV6]; exact (setRow_other _ _ _ _ (by omega)).trans Nbrw6.out
        have NxV : Hid (V6.heap[bx]? = some (.cells #[.slice h1 k1 d1, .slice h2 k2 d2] 26 (0, 0))) := by show _ = _; rw [← hV6]; exact setRow_heap _ _ _ _ _ _ Nbxw6.out
        have NkV : Hid (V6.heap[bx + 1]? = some (.cells #[.string ⟨#[107, 101, 121, 50]⟩, .string ⟨#[111, 116, 104, 101, 114]⟩, .string ⟨#[107]⟩, .string ⟨#[0, 255]⟩, .string ⟨#[108, 97, 115, 116]⟩] 9 (0, 0))) := by show _ = _; rw [← hV6]; exact (setRow_other _ _ _ _ (by omega)).trans Nbkw6.out
        have RV6 : Hid (RdAt V6 blk q') := by show RdAt _ _ _; rw [← hV6]; exact RDw6.out.setRow (by omega) _
        have KV6 : Hid (Kept blk w V6) := by show Kept _ _ _; rw [← hV6]; exact Kw6.out.setRow (by omega) _
        have OV6 : Hid (RingOwn (w.heap.size + 1) V6.heap.size V6 (.agg #[.slice h1 k1 d1, .slice h2 k2 d2]) (rtkT x (tk, tf, ts))) := by
          have h9 := Ow6.out.setRowR Nbxw6.out #[.slice h1 k1 d1, .slice h2 k2 d2]
          have hs : V6.heap.size = w6.heap.size := by rw [← hV6]; simp
          rw [hV6, ← hs] at h9
          exact h9
        have HV6 : Hid (w6.setRow bx #[.slice h1 k1 d1, .slice h2 k2 d2] = V6) := hV6
        have HSZ : Hid ((Tryd.prog.info? 26).map (·.size) = some 2) := info_ring478
        clear ho6 hb6 x0 x1 y0 y1 y2 hV6
        go_wp2_with (refine wpList_store_row rfl 26 _ _ rfl bx #[.slice h1 k1 d1, .slice h2 k2 d2] rfl rfl 26 _ Nbxw6.out HSZ.out rfl (by simp [Value.oneCell']) ?_; rw [HV6.out])
        go_roundw
        case rel => exact ⟨m', r + 1, M', h1, k1, d1, h2, k2, d2, _, q', by have := HM.out; omega, rfl, by omega, rfl, NrV.out, NxV.out, NkV.out, OV6.out, rtk_keeps _ HOK.out, RV6.out, by omega, KV6.out⟩
        case measure => have := HM.out; simp [intOf]; omega
    · have hm0 : m = 0 := by omega
      subst hm0
      have f0 : wr.cell? ⟨w.heap.size, 0, none⟩ = some (.slice none 0 0) := by rw [cell_of_row _ _ 0 _ _ _ hnr]; rfl
      have f1 : wr.cell? ⟨w.heap.size, 1, none⟩ = some (.slice none 0 0) := by rw [cell_of_row _ _ 1 _ _ _ hnr]; rfl
      obtain ⟨V6, hV6⟩ : ∃ X, wr.setRow w.heap.size #[.slice g1 n1 c1, .slice g2 n2 c2] = X := ⟨_, rfl⟩
      have NxV : Hid (V6.heap[w.heap.size]? = some (.cells #[.slice g1 n1 c1, .slice g2 n2 c2] 26 (0, 0))) := by show _ = _; rw [← hV6]; exact setRow_heap _ _ _ _ _ _ Nbrwr.out
      have RV6 : Hid (RdAt V6 blk q) := by show RdAt _ _ _; rw [← hV6]; exact R.out.setRow (by omega) _
      have KV6 : Hid (Kept blk w V6) := by show Kept _ _ _; rw [← hV6]; exact K.out.setRow (Nat.le_refl _) _
      have OV6 : Hid (RingOwn (w.heap.size + 1) V6.heap.size V6 (.agg #[.slice g1 n1 c1, .slice g2 n2 c2]) x) := by
        have h9 := O.out.setRowR Nbrwr.out #[.slice g1 n1 c1, .slice g2 n2 c2]
        have hs : V6.heap.size = wr.heap.size := by rw [← hV6]; simp
        rw [hV6, ← hs] at h9
        exact h9
      have HV6 : Hid (wr.setRow w.heap.size #[.slice g1 n1 c1, .slice g2 n2 c2] = V6) := hV6
      have HSZ : Hid ((Tryd.prog.info? 26).map (·.size) = some 2) := info_ring478
      have v0 : V6.cell? ⟨w.heap.size, 0, none⟩ = some (.slice g1 n1 c1) := by rw [cell_of_row _ _ 0 _ _ _ NxV.out]; rfl
      have v1 : V6.cell? ⟨w.heap.size, 1, none⟩ = some (.slice g2 n2 c2) := by rw [cell_of_row _ _ 1 _ _ _ NxV.out]; rfl
      clear hV6 f0 f1
      go_wp2_with (refine wpList_store_row rfl 26 _ _ rfl w.heap.size #[.slice g1 n1 c1, .slice g2 n2 c2] rfl rfl 26 _ Nbrwr.out HSZ.out rfl (by simp [Value.oneCell']) ?_; rw [HV6.out])
      refine bodyPost_ret (v := .agg #[.slice g1 n1 c1, .slice g2 n2 c2]) (by simp [results, Tryd.results39, go_sem, v0, v1]) rfl ⟨x, HOK.out, _, _, _, _, _, _, rfl, OV6.out.weak480 (by omega) (Nat.le_refl _), ⟨q, RV6.out, by omega⟩, KV6.out⟩
end Go.Proofs.YtdjpeickokoclaaDoor
/-
  Any ring, drawn: spec.l13AnyRing, spec.DrawRingKey.
-/
namespace Go.Proofs.YtdjpeickokoclaaDoor
open Go.RowKit
set_option linter.unusedVariables false
set_option linter.unusedSimpArgs false
theorem owns_poke492 {w : World} {lo g n cap : Nat} {e : TypeId} {s : Nat} {xs : List Value} (h : w.ownsRow lo e s (.slice (some ⟨g, 0, none⟩) n cap) n xs) (i : Nat) (u : Value) (hi : i < xs.length) : (w.setCell ⟨g, i, none⟩ u).ownsRow lo e s (.slice (some ⟨g, 0, none⟩) n cap) n (xs.set i u) := by
  refine ⟨by rw [List.length_set]; exact h.1, ?_⟩
  rcases h.2 with ⟨h0, _⟩ | ⟨g', cap', cur, hv, hg, h3, h4, h5, h6, h7⟩
  · cases h0
  · simp only [Value.slice.injEq, Option.some.injEq, Addr.mk.injEq, and_true, true_and] at hv
    obtain ⟨rfl, rfl⟩ := hv
    refine .inr ⟨g, cap, cur.setIfInBounds i u, rfl, hg, ?_, h4, h5, by simpa using h6, ?_⟩
    · have hlt := lt_of_block405 h3
      unfold World.setCell
      rw [Array.getElem?_modify]
      simp [h3]
    · rw [Array.toList_setIfInBounds, List.take_set, h7]
theorem owns_kept492 {blk lo : Nat} {w w' : World} {e : TypeId} {s n : Nat} {v : Value} {xs : List Value} (h : w.ownsRow lo e s v n xs) (hk : Kept blk w w') (hb : blk < lo) : w'.ownsRow lo e s v n xs := by
  refine ⟨h.1, ?_⟩
  rcases h.2 with h2 | ⟨g, cap, cur, hv, h1, h3, h4⟩
  · exact .inl h2
  · exact .inr ⟨g, cap, cur, hv, h1, (hk.block g (Array.getElem?_eq_some_iff.1 h3).1 (by omega)).trans h3, h4⟩
theorem owns_row492 {w : World} {lo g n cap : Nat} {e : TypeId} {s m : Nat} {xs : List Value} (h : w.ownsRow lo e s (.slice (some ⟨g, 0, none⟩) n cap) m xs) : ∃ cur, w.heap[g]? = some (.cells cur e (0, 0)) ∧ lo ≤ g := by
  rcases h.2 with ⟨h0, _⟩ | ⟨g', cap', cur, hv, hg, h3, h4, h5, h6, h7⟩
  · cases h0
  · simp only [Value.slice.injEq, Option.some.injEq, Addr.mk.injEq, and_true] at hv
    obtain ⟨rfl, rfl, rfl⟩ := hv
    exact ⟨cur, h3, hg⟩
theorem box0_492 {w : World} {B : Nat} {t : TypeId} {a b : Value} (h : w.heap[B]? = some (.cells #[a, b] t (0, 0))) (v : Value) : (w.setCell ⟨B, 0, none⟩ v).heap[B]? = some (.cells #[v, b] t (0, 0)) := by
  have hlt := lt_of_block405 h
  unfold World.setCell
  rw [Array.getElem?_modify]
  simp [h]
theorem box1_492 {w : World} {B : Nat} {t : TypeId} {a b : Value} (h : w.heap[B]? = some (.cells #[a, b] t (0, 0))) (v : Value) : (w.setCell ⟨B, 1, none⟩ v).heap[B]? = some (.cells #[a, v] t (0, 0)) := by
  have hlt := lt_of_block405 h
  unfold World.setCell
  rw [Array.getElem?_modify]
  simp [h]
theorem long_fit492 {ks : List ByteArray} {k : ByteArray} (h : ∀ (i : Nat) (y : ByteArray), ks[i]? = some y → y.size ≤ maxLen) (hk : k.size ≤ maxLen) : ∀ (i : Nat) (y : ByteArray), (ks ++ [k])[i]? = some y → y.size ≤ maxLen := by
  intro i y hy
  rcases Nat.lt_or_ge i ks.length with h1 | h1
  · rw [List.getElem?_append_left h1] at hy; exact h i y hy
  · rw [List.getElem?_append_right h1] at hy
    match hj : i - ks.length, hy with
    | 0, hy => simp at hy; rw [← hy]; exact hk
    | n + 1, hy => simp at hy
theorem apart492 {w : World} {lo lo' b : Nat} {e e' : TypeId} {s s' n n' : Nat} {v v' : Value} {xs xs' : List Value} (h : w.ownsRow lo e s v n xs) (h' : w.ownsRow lo' e' s' v' n' xs') (hne : e ≠ e') (hb : v'.ownBlock = some b) : ∀ g, v.ownBlock = some g → g ≠ b := by
  rintro g hg rfl
  rcases rows_apart h h' hne with h1 | h1
  · rw [h1] at hg; cases hg
  · exact h1 (hg.trans hb.symm)
theorem Kept.lo492 {blk lo : Nat} {w x y : World} (h : Kept blk w x) (hb : Below lo x y) (hl : w.heap.size ≤ lo) : Kept blk w y :=
  ⟨hb.os.trans h.os, hb.tape.trans h.tape, hb.output.trans h.output, Nat.le_trans h.size hb.size, fun k hk hn => (hb.block k (by omega)).trans (h.block k hk hn)⟩
theorem RdAt.lo492 {w w' : World} {blk p lo : Nat} (h : RdAt w blk p) (hb : Below lo w w') (hl : blk < lo) : RdAt w' blk p := rdAt_low491 h fun k hk => hb.block k (by omega)
theorem set0_492 (ks : List ByteArray) (s : ByteArray) (i : Nat) : (texts ks).set i (.string s) = texts (ks.set i s) := by simp [texts, List.map_set]
theorem setI_492 (ns : List Int) (z : Int) (i : Nat) : (intsV ns).set i (.int .i64 z) = intsV (ns.set i z) := by simp [intsV, List.map_set]
theorem RingOwn.fit492 {lo hi : Nat} {w : World} {v : Value} {x : RingM} (h : RingOwn lo hi w v x) : ∀ (i : Nat) (y : ByteArray), x.1[i]? = some y → y.size ≤ maxLen := by
  obtain ⟨va, vn, hv, h1, h2⟩ := h
  exact h1.2
set_option maxHeartbeats 1000000 in
theorem one492_any (w : World) (blk p g n cap : Nat) (h : RdAt w blk p) (hp : p ≤ 1000000) (hn : 1 ≤ n) (hn' : n ≤ 1000)
    (hc : ∀ i, i < n → ∃ x : Int, w.cell? ⟨g, i, none⟩ = some (.int .i64 x)) (hg : g ≠ blk) :
    Calls Tryd.prog 34 #[.pointer (some ⟨blk, 0, none⟩), .slice (some ⟨g, 0, none⟩) n cap] w fun e w' => ∃ x : Int, e = .returned (.int .i64 x) ∧ RdAt w' blk (p + 1) ∧ Kept blk w w' := by
  have HC : Hid (∀ i, i < n → ∃ x : Int, w.cell? ⟨g, i, none⟩ = some (.int .i64 x)) := hc
  clear hc
  go_enter Tryd.func34, Tryd.ntmps34
  go_wp2_with fail
  refine (pick_any w blk p n h hp (by omega)).mono ?_
  rintro e w1 ⟨v, rfl, hv0, hv1, hr1, hk1⟩
  obtain ⟨i, rfl⟩ := Int.eq_ofNat_of_zero_le hv0
  have hi : i < n := by have := hv1 (by omega); omega
  obtain ⟨x, hx⟩ := HC.out i hi
  have hs1 : w1.cell? ⟨g, i, none⟩ = some (.int .i64 x) := by
    rw [hk1.cell (p := ⟨g, i, none⟩) ?_ hg]
    · exact hx
    · show g < w.heap.size
      rcases Nat.lt_or_ge g w.heap.size with hlt | hge
      · exact hlt
      · unfold World.cell? at hx
        rw [Array.getElem?_eq_none hge] at hx
        simp at hx
  have HR : Hid (RdAt w1 blk (p + 1)) := hr1
  clear hv1 hr1 hx
  go_wp2
  go_ret
  exact ⟨x, rfl, HR.out, hk1⟩
set_option maxRecDepth 100000 in
set_option maxHeartbeats 8000000 in
theorem l13AnyRing_any (w : World) (blk p : Nat) (h : RdAt w blk p) (hp : p ≤ 100000) :
    Calls Tryd.prog 18 #[.pointer (some ⟨blk, 0, none⟩)] w fun e w' => ∃ x, drR x w blk p 30 e w' := by
  have HBL : Hid (blk < w.heap.size) := h.lt
  obtain ⟨W, hW⟩ : ∃ W, w.alloc (.cells #[.slice none 0 0, .slice none 0 0] 26) = W := ⟨_, rfl⟩
  have hzW : W.heap.size = w.heap.size + 1 := by rw [← hW]; simp
  have NrW : Hid (W.heap[w.heap.size]? = some (.cells #[.slice none 0 0, .slice none 0 0] 26 (0, 0))) := by show _ = _; rw [← hW]; exact heap_alloc_last w _
  have RW : Hid (RdAt W blk p) := by show RdAt _ _ _; rw [← hW]; exact h.alloc _
  have KW : Hid (Kept blk w W) := by show Kept _ _ _; rw [← hW]; exact (Kept.refl blk w).alloc _
  have HW : Hid (w.alloc (.cells #[.slice none 0 0, .slice none 0 0] 26) = W) := hW
  clear h hW
  go_enter Tryd.func18, Tryd.ntmps18
  go_wp2_with fail
  try rw [HW.out]
  refine (l13Ring_any W blk p RW.out hp).mono ?_
  rintro e w2 ⟨⟨ks, ns⟩, hok, f1, m1, d1, f2, m2, d2, rfl, ho, ⟨q, hr, hq⟩, hk⟩
  have hbl := HBL.out
  have HG : Hid (RingGood (ks, ns)) := ringOk_good hok
  have hl1 : 1 ≤ ks.length := HG.out.1
  have hl5 : ks.length ≤ 5 := HG.out.2.1
  have HL6 : Hid (ns.length = ks.length) := HG.out.2.2.1
  have hl7 : 1 ≤ ns.length := by have := HL6.out; omega
  have hl8 : ns.length ≤ 5 := by have := HL6.out; omega
  have HFIT : Hid (∀ (i : Nat) (y : ByteArray), ks[i]? = some y → y.size ≤ maxLen) := ho.fit492
  have O2 : Hid (RingAt w2 (.agg #[.slice f1 m1 d1, .slice f2 m2 d2]) (ks, ns)) := ho.at
  have R2 : Hid (RdAt w2 blk q) := hr
  have K2 : Hid (Kept blk w w2) := KW.out.trans hk
  have N2 : Hid (w2.heap[w.heap.size]? = some (.cells #[.slice none 0 0, .slice none 0 0] 26 (0, 0))) := (hk.block _ (by omega) (by omega)).trans NrW.out
  have hz2 : w.heap.size + 1 ≤ w2.heap.size := by have := hk.size; omega
  clear hok ho hr hk hzW
  go_wp2_with fail
  refine (l11Copy_any w2 _ (ks, ns) O2.out hl1 hl7 (by show ks.length ≤ _; omega) (by show ns.length ≤ _; omega)).mono ?_
  rintro e w3 ⟨g1, n1, c1, g2, n2, c2, rfl, ho1, ho2, hb3⟩
  obtain ⟨G1, C1, hv1, -, -⟩ := World.ownsRow.form ho1 (by show 0 < ks.length; omega)
  cases hv1
  obtain ⟨G2, C2, hv2, -, -⟩ := World.ownsRow.form ho2 (by show 0 < ns.length; omega)
  cases hv2
  obtain ⟨lo, hlo⟩ : ∃ l, w2.heap.size = l := ⟨_, rfl⟩
  have hlw : w.heap.size + 1 ≤ lo := by omega
  have R3 : Hid (RdAt w3 blk q) := R2.out.keep hb3
  have K3 : Hid (Kept blk w w3) := K2.out.trans (Kept.of_below hb3)
  have N3 : Hid (w3.heap[w.heap.size]? = some (.cells #[.slice none 0 0, .slice none 0 0] 26 (0, 0))) := (hb3.block _ (by omega)).trans N2.out
  have hz3 : lo ≤ w3.heap.size := by have := hb3.size; omega
  rw [hlo] at ho1 ho2
  have S3 : Hid (w3.ownsRow lo 9 1 (.slice (some ⟨G1, 0, none⟩) ks.length c1) ks.length (texts ks)) := ho1
  have T3 : Hid (w3.ownsRow lo 3 1 (.slice (some ⟨G2, 0, none⟩) ns.length c2) ns.length (intsV ns)) := ho2
  clear ho1 ho2 hb3 hz2 hlo
  obtain ⟨W3, hW3⟩ : ∃ Y, w3.alloc (.cells #[.slice (some ⟨G1, 0, none⟩) ks.length c1, .slice (some ⟨G2, 0, none⟩) ns.length c2] 26) = Y := ⟨_, rfl⟩
  have hBW : Below w3.heap.size w3 W3 := by rw [← hW3]; exact (Below.refl _ _).alloc (Nat.le_refl _) _
  obtain ⟨X, hX⟩ : ∃ x, w3.heap.size = x := ⟨_, rfl⟩
  have NXW : Hid (W3.heap[X]? = some (.cells #[.slice (some ⟨G1, 0, none⟩) ks.length c1, .slice (some ⟨G2, 0, none⟩) ns.length c2] 26 (0, 0))) := by show _ = _; rw [← hW3, ← hX]; exact heap_alloc_last w3 _
  have RW3 : Hid (RdAt W3 blk q) := R3.out.keep hBW
  have KW3 : Hid (Kept blk w W3) := K3.out.trans (Kept.of_below hBW)
  have NRW : Hid (W3.heap[w.heap.size]? = some (.cells #[.slice none 0 0, .slice none 0 0] 26 (0, 0))) := (hBW.block _ (by omega)).trans N3.out
  have SW3 : Hid (W3.ownsRow lo 9 1 (.slice (some ⟨G1, 0, none⟩) ks.length c1) ks.length (texts ks)) := owns_below S3.out hBW
  have TW3 : Hid (W3.ownsRow lo 3 1 (.slice (some ⟨G2, 0, none⟩) ns.length c2) ns.length (intsV ns)) := owns_below T3.out hBW
  have HX : Hid (lo ≤ X) := by show _ ≤ _; omega
  have HXE : Hid (w3.heap.size = X) := hX
  have HW3 : Hid (w3.alloc (.cells #[.slice (some ⟨G1, 0, none⟩) ks.length c1, .slice (some ⟨G2, 0, none⟩) ns.length c2] 26) = W3) := hW3
  clear hBW hW3 hX
  go_wp2_with fail
  try rw [HW3.out]
  try rw [HXE.out]
  refine (pick_any W3 blk q 12 RW3.out (by omega) (by omega)).mono ?_
  rintro e w4 ⟨v, rfl, hv0, hv1, hr4, hk4⟩
  have RDw4 : Hid (RdAt w4 blk (q + 1)) := hr4
  have Kw4 : Hid (Kept blk w w4) := KW3.out.trans hk4
  have Nbrw4 : Hid (w4.heap[w.heap.size]? = some (.cells #[.slice none 0 0, .slice none 0 0] 26 (0, 0))) := (hk4.block _ (Array.getElem?_eq_some_iff.1 NRW.out).1 (by omega)).trans NRW.out
  have Nbxw4 : Hid (w4.heap[X]? = some (.cells #[.slice (some ⟨G1, 0, none⟩) ks.length c1, .slice (some ⟨G2, 0, none⟩) ns.length c2] 26 (0, 0))) := (hk4.block _ (Array.getElem?_eq_some_iff.1 NXW.out).1 (by have := HX.out; omega)).trans NXW.out
  have SAw4 : Hid (w4.ownsRow lo 9 1 (.slice (some ⟨G1, 0, none⟩) ks.length c1) ks.length (texts ks)) := owns_kept492 SW3.out hk4 (by omega)
  have SBw4 : Hid (w4.ownsRow lo 3 1 (.slice (some ⟨G2, 0, none⟩) ns.length c2) ns.length (intsV ns)) := owns_kept492 TW3.out hk4 (by omega)
  have HSZ : Hid ((Tryd.prog.info? 26).map (·.size) = some 2) := info_ring478
  have hX1 := HX.out
  obtain ⟨i3, hi3, hz3', hs3, hb3'⟩ := info_parts Tryd.info_str405
  obtain ⟨i4, hi4, hz4, hs4, hb4⟩ := info_parts Tryd.info_int405
  clear hr4 hk4 hv1
  by_cases h0 : v = 0
  · subst h0
    have hlz : (0 : Int) < (ks.length : Int) := by omega
    obtain ⟨cur, hcur, hgl⟩ := owns_row492 SAw4.out
    obtain ⟨b, off, cap, s0, hv, -, -, -, k0⟩ := (textsRow_of_owns SAw4.out rfl HFIT.out).at.at (k := 0) (by omega)
    cases hv
    have fz0 : w4.frozen? ⟨G1, 0, none⟩ = false := frozen_of_row _ _ 0 _ _ hcur
    obtain ⟨W5, hW5⟩ : ∃ Y, w4.setCell ⟨G1, 0, none⟩ (.string ⟨#[]⟩) = Y := ⟨_, rfl⟩
    have hb5 : Below lo w4 W5 := by rw [← hW5]; exact (Below.refl _ _).setCell (p := ⟨G1, 0, none⟩) hgl _
    have hgx := owns_ne478 SAw4.out Nbxw4.out (by decide) G1 rfl
    have NbxW5 : Hid (W5.heap[X]? = some (.cells #[.slice (some ⟨G1, 0, none⟩) ks.length c1, .slice (some ⟨G2, 0, none⟩) ns.length c2] 26 (0, 0))) := by show _ = _; rw [← hW5, heap_oth405 _ _ (by omega)]; exact Nbxw4.out
    have SAW5 : Hid (W5.ownsRow lo 9 1 (.slice (some ⟨G1, 0, none⟩) ks.length c1) ks.length (texts (ks.set 0 ⟨#[]⟩))) := by
      show World.ownsRow _ _ _ _ _ _ _
      rw [← set0_492, ← hW5]
      exact owns_poke492 SAw4.out 0 _ (by simp [texts]; omega)
    have SBW5 : Hid (W5.ownsRow lo 3 1 (.slice (some ⟨G2, 0, none⟩) ns.length c2) ns.length (intsV ns)) := by
      show World.ownsRow _ _ _ _ _ _ _
      rw [← hW5]
      exact owns_cell478 SBw4.out (apart492 SBw4.out SAw4.out (by decide) rfl) 0 _
    have HW5 : Hid (w4.setCell ⟨G1, 0, none⟩ (.string ⟨#[]⟩) = W5) := hW5
    have HFIT2 : Hid (∀ (i : Nat) (y : ByteArray), (ks.set 0 ⟨#[]⟩)[i]? = some y → y.size ≤ maxLen) := fun i y hy => by
      rw [List.getElem?_set] at hy
      split at hy
      · split at hy
        · cases hy; exact Nat.zero_le _
        · cases hy
      · exact HFIT.out i y hy
    have RDW5 : Hid (RdAt W5 blk (q + 1)) := RDw4.out.lo492 hb5 (by omega)
    have KW5 : Hid (Kept blk w W5) := Kw4.out.lo492 hb5 (by omega)
    have NbrW5 : Hid (W5.heap[w.heap.size]? = some (.cells #[.slice none 0 0, .slice none 0 0] 26 (0, 0))) := (hb5.block _ (by omega)).trans Nbrw4.out
    have x0 : w4.cell? ⟨X, 0, none⟩ = some (.slice (some ⟨G1, 0, none⟩) ks.length c1) := by rw [cell_of_row _ _ 0 _ _ _ Nbxw4.out]; rfl
    have x1 : w4.cell? ⟨X, 1, none⟩ = some (.slice (some ⟨G2, 0, none⟩) ns.length c2) := by rw [cell_of_row _ _ 1 _ _ _ Nbxw4.out]; rfl
    clear hb5 hW5 hcur
    simp only [Nat.add_zero] at k0
    have y0 : W5.cell? ⟨X, 0, none⟩ = some (.slice (some ⟨G1, 0, none⟩) ks.length c1) := by rw [cell_of_row _ _ 0 _ _ _ NbxW5.out]; rfl
    have y1 : W5.cell? ⟨X, 1, none⟩ = some (.slice (some ⟨G2, 0, none⟩) ns.length c2) := by rw [cell_of_row _ _ 1 _ _ _ NbxW5.out]; rfl
    obtain ⟨V6, hV6⟩ : ∃ Y, W5.setRow w.heap.size #[.slice (some ⟨G1, 0, none⟩) ks.length c1, .slice (some ⟨G2, 0, none⟩) ns.length c2] = Y := ⟨_, rfl⟩
    have NxV : Hid (V6.heap[w.heap.size]? = some (.cells #[.slice (some ⟨G1, 0, none⟩) ks.length c1, .slice (some ⟨G2, 0, none⟩) ns.length c2] 26 (0, 0))) := (by show _ = _; rw [← hV6]; exact setRow_heap _ _ _ _ _ _ NbrW5.out)
    have RV6 : Hid (RdAt V6 blk (q + 1)) := (by show RdAt _ _ _; rw [← hV6]; exact RDW5.out.setRow (by omega) _)
    have KV6 : Hid (Kept blk w V6) := (by show Kept _ _ _; rw [← hV6]; exact KW5.out.setRow (Nat.le_refl _) _)
    have OV6 : Hid (RingOwn lo V6.heap.size V6 (.agg #[.slice (some ⟨G1, 0, none⟩) ks.length c1, .slice (some ⟨G2, 0, none⟩) ns.length c2]) ((ks.set 0 ⟨#[]⟩), ns)) := (by have h8 : RingOwn lo W5.heap.size W5 (.agg #[.slice (some ⟨G1, 0, none⟩) ks.length c1, .slice (some ⟨G2, 0, none⟩) ns.length c2]) ((ks.set 0 ⟨#[]⟩), ns) := (ring_of_rows (textsRow_of_owns SAW5.out (by simp) HFIT2.out) (intsRow_of_owns SBW5.out rfl)); have h9 := h8.setRowR NbrW5.out #[.slice (some ⟨G1, 0, none⟩) ks.length c1, .slice (some ⟨G2, 0, none⟩) ns.length c2]; have hs : V6.heap.size = W5.heap.size := (by rw [← hV6]; simp); rw [hV6, ← hs] at h9; exact h9)
    have HV6 : Hid (W5.setRow w.heap.size #[.slice (some ⟨G1, 0, none⟩) ks.length c1, .slice (some ⟨G2, 0, none⟩) ns.length c2] = V6) := hV6
    have v0 : V6.cell? ⟨w.heap.size, 0, none⟩ = some (.slice (some ⟨G1, 0, none⟩) ks.length c1) := (by rw [cell_of_row _ _ 0 _ _ _ NxV.out]; rfl)
    have v1 : V6.cell? ⟨w.heap.size, 1, none⟩ = some (.slice (some ⟨G2, 0, none⟩) ns.length c2) := (by rw [cell_of_row _ _ 1 _ _ _ NxV.out]; rfl)
    clear hV6
    go_wp2_with (first | rw [HW5.out] | skip; refine wpList_store_row rfl 26 _ _ rfl w.heap.size #[.slice (some ⟨G1, 0, none⟩) ks.length c1, .slice (some ⟨G2, 0, none⟩) ns.length c2] rfl rfl 26 _ NbrW5.out HSZ.out rfl (by simp [Value.oneCell']) ?_; rw [HV6.out])
    refine bodyPost_ret (v := .agg #[.slice (some ⟨G1, 0, none⟩) ks.length c1, .slice (some ⟨G2, 0, none⟩) ns.length c2]) (by simp [results, Tryd.results18, go_sem, v0, v1]) rfl ⟨((ks.set 0 ⟨#[]⟩), ns), _, _, _, _, _, _, rfl, OV6.out.weak480 (by omega) (Nat.le_refl _), ⟨_, RV6.out, by omega⟩, KV6.out⟩
  have h0i : (v == 0) = false := by simp [h0]
  by_cases h1 : v = 1
  · subst h1
    obtain ⟨m2, hm2⟩ : ∃ m, ns.length = m + 1 := ⟨ns.length - 1, by omega⟩
    have q1 : IntKind.i64.wrap ((ns.length : Int) - 1) = (m2 : Int) := by rw [IntWalk.i64_in _ (by omega)]; omega
    have hm2a : (0 : Int) ≤ (m2 : Int) := by omega
    have hm2b : (m2 : Int) < (ns.length : Int) := by omega
    have hm2c : m2 < ns.length := by omega
    clear hm2
    go_wp2_with fail
    refine wp_region_held_drew (S := (fun w' => w'.cell? ⟨X, 0, none⟩ = some (.slice (some ⟨G1, 0, none⟩) ks.length c1) ∧ w'.cell? ⟨X, 1, none⟩ = some (.slice (some ⟨G2, 0, none⟩) ns.length c2))) (by kernel_rfl) ?_ (fun hHeld => ?_)
    · exact ⟨by show w4.cell? ⟨X, 0, none⟩ = _; rw [cell_of_row _ _ 0 _ _ _ Nbxw4.out]; rfl, by show w4.cell? ⟨X, 1, none⟩ = _; rw [cell_of_row _ _ 1 _ _ _ Nbxw4.out]; rfl⟩
    refine tk 0 16 (.pointer (some ⟨X, 1, none⟩)) ?_
    simp only [Act.put, List.setIfInBounds_toArray, List.set_cons_zero, List.set_cons_succ]
    refine tk 1 17 (.slice (some ⟨G2, 0, none⟩) ns.length c2) ?_
    simp only [Act.put, List.setIfInBounds_toArray, List.set_cons_zero, List.set_cons_succ]
    refine tk 2 18 (.pointer (some ⟨X, 1, none⟩)) ?_
    simp only [Act.put, List.setIfInBounds_toArray, List.set_cons_zero, List.set_cons_succ]
    refine tk 3 19 (.slice (some ⟨G2, 0, none⟩) ns.length c2) ?_
    simp only [Act.put, List.setIfInBounds_toArray, List.set_cons_zero, List.set_cons_succ]
    refine tk 4 20 (.int .i64 ns.length) ?_
    simp only [Act.put, List.setIfInBounds_toArray, List.set_cons_zero, List.set_cons_succ]
    refine tk 5 21 (.int .i64 (m2 : Int)) ?_
    simp only [Act.put, List.setIfInBounds_toArray, List.set_cons_zero, List.set_cons_succ]
    refine tk 6 22 (.pointer (some ⟨blk, 0, none⟩)) ?_
    simp only [Act.put, List.setIfInBounds_toArray, List.set_cons_zero, List.set_cons_succ]
    obtain ⟨y0, hx⟩ : ∃ X, World.drew w4 = X := ⟨_, rfl⟩
    have Ky0 : Hid (Kept blk w y0) := by show Kept _ _ _; rw [← hx]; exact Kw4.out.trans (Kept.of_below (Below.refl _ _).drew)
    have Zy0 : Hid (w4.heap.size ≤ y0.heap.size) := by show _ ≤ _; rw [← hx]; exact Nat.le_refl _
    have RDy0 : Hid (RdAt y0 blk (q + 1)) := by have h9 := RDw4.out.keep (Below.refl _ _).drew; rw [hx] at h9; exact h9
    have SAy0 : Hid (y0.ownsRow lo 9 1 (.slice (some ⟨G1, 0, none⟩) ks.length c1) ks.length (texts ks)) := by have h9 := owns_below SAw4.out (Below.refl _ _).drew; rw [hx] at h9; exact h9
    have SBy0 : Hid (y0.ownsRow lo 3 1 (.slice (some ⟨G2, 0, none⟩) ns.length c2) ns.length (intsV ns)) := by have h9 := owns_below SBw4.out (Below.refl _ _).drew; rw [hx] at h9; exact h9
    have Nbry0 : Hid (y0.heap[w.heap.size]? = some (.cells #[.slice none 0 0, .slice none 0 0] 26 (0, 0))) := by show _ = _; rw [← hx]; exact Nbrw4.out
    have Nbxy0 : Hid (y0.heap[X]? = some (.cells #[.slice (some ⟨G1, 0, none⟩) ks.length c1, .slice (some ⟨G2, 0, none⟩) ns.length c2] 26 (0, 0))) := by show _ = _; rw [← hx]; exact Nbxw4.out
    rw [hx]
    clear hx
    refine wpAnyH_ready (rs := [7]) (by kernel_rfl) (by simp) ?_
    refine AllReadyH.cons rfl (fun K hK => ?_) AllReadyH.nil
    go_simp
    have NA : Hid ((y0.alloc (.cells #[.int .i64 0, .int .i64 1, .int .i64 1000000] 3)).heap[y0.heap.size]? = some (.cells #[.int .i64 0, .int .i64 1, .int .i64 1000000] 3 (0, 0))) := heap_alloc_last _ _
    obtain ⟨y1, hx⟩ : ∃ X, y0.alloc (.cells #[.int .i64 0, .int .i64 1, .int .i64 1000000] 3) = X := ⟨_, rfl⟩
    have hb : Below y0.heap.size y0 y1 := by rw [← hx]; exact (Below.refl _ _).alloc (Nat.le_refl _) _
    have Zy1 : Hid (y0.heap.size < y1.heap.size) := by show _ < _; rw [← hx]; simp
    have Nq23_y1 : Hid (y1.heap[y0.heap.size]? = some (.cells #[.int .i64 0, .int .i64 1, .int .i64 1000000] 3 (0, 0))) := by show _ = _; rw [← hx]; exact NA.out
    have Ky1 : Hid (Kept blk w y1) := Ky0.out.trans (Kept.of_below hb)
    have HQq23_ : Hid (w.heap.size ≤ y0.heap.size) := Ky0.out.size
    have RDy1 : Hid (RdAt y1 blk (q + 1)) := RDy0.out.keep hb
    have SAy1 : Hid (y1.ownsRow lo 9 1 (.slice (some ⟨G1, 0, none⟩) ks.length c1) ks.length (texts ks)) := owns_below SAy0.out hb
    have SBy1 : Hid (y1.ownsRow lo 3 1 (.slice (some ⟨G2, 0, none⟩) ns.length c2) ns.length (intsV ns)) := owns_below SBy0.out hb
    have Nbry1 : Hid (y1.heap[w.heap.size]? = some (.cells #[.slice none 0 0, .slice none 0 0] 26 (0, 0))) := (hb.block _ (Array.getElem?_eq_some_iff.1 Nbry0.out).1).trans Nbry0.out
    have Nbxy1 : Hid (y1.heap[X]? = some (.cells #[.slice (some ⟨G1, 0, none⟩) ks.length c1, .slice (some ⟨G2, 0, none⟩) ns.length c2] 26 (0, 0))) := (hb.block _ (Array.getElem?_eq_some_iff.1 Nbxy0.out).1).trans Nbxy0.out
    rw [hx]
    clear hx NA hb
    refine hK.out _ _ ?_ (fun hHeld => ?_)
    · exact ⟨by show y1.cell? ⟨X, 0, none⟩ = _; rw [cell_of_row _ _ 0 _ _ _ Nbxy1.out]; rfl, by show y1.cell? ⟨X, 1, none⟩ = _; rw [cell_of_row _ _ 1 _ _ _ Nbxy1.out]; rfl⟩
    clear hK K
    try simp only [Act.put, List.setIfInBounds_toArray, List.set_cons_zero, List.set_cons_succ]
    refine wpAnyH_ready (rs := [8]) (by kernel_rfl) (by simp) ?_
    refine AllReadyH.cons rfl (fun K hK => ?_) AllReadyH.nil
    go_simp
    refine (one492_any _ blk (q + 1) (y0.heap.size) 3 3 RDy1.out (by omega) (by omega) (by omega) (fun i hi => by match i, hi with | 0, _ => exact ⟨_, by rw [cell_of_row _ _ 0 _ _ _ Nq23_y1.out]; rfl⟩ | 1, _ => exact ⟨_, by rw [cell_of_row _ _ 1 _ _ _ Nq23_y1.out]; rfl⟩ | 2, _ => exact ⟨_, by rw [cell_of_row _ _ 2 _ _ _ Nq23_y1.out]; rfl⟩) (by have := HQq23_.out; omega)).mono ?_
    rintro e y2 ⟨z, rfl, hr, hb⟩
    have Zy2 : Hid (y1.heap.size ≤ y2.heap.size) := hb.size
    have Ky2 : Hid (Kept blk w y2) := Ky1.out.trans hb
    have SAy2 : Hid (y2.ownsRow lo 9 1 (.slice (some ⟨G1, 0, none⟩) ks.length c1) ks.length (texts ks)) := owns_kept492 SAy1.out hb (by omega)
    have SBy2 : Hid (y2.ownsRow lo 3 1 (.slice (some ⟨G2, 0, none⟩) ns.length c2) ns.length (intsV ns)) := owns_kept492 SBy1.out hb (by omega)
    have Nbry2 : Hid (y2.heap[w.heap.size]? = some (.cells #[.slice none 0 0, .slice none 0 0] 26 (0, 0))) := (hb.block _ (Array.getElem?_eq_some_iff.1 Nbry1.out).1 (by first | omega | (have := HQbr.out; omega))).trans Nbry1.out
    have Nbxy2 : Hid (y2.heap[X]? = some (.cells #[.slice (some ⟨G1, 0, none⟩) ks.length c1, .slice (some ⟨G2, 0, none⟩) ns.length c2] 26 (0, 0))) := (hb.block _ (Array.getElem?_eq_some_iff.1 Nbxy1.out).1 (by first | omega | (have := HQbx.out; omega))).trans Nbxy1.out
    have RDy2 : Hid (RdAt y2 blk (q + 1 + 1)) := hr
    clear hb
    refine hK.out _ _ ?_ (fun hHeld => ?_)
    · exact ⟨by show y2.cell? ⟨X, 0, none⟩ = _; rw [cell_of_row _ _ 0 _ _ _ Nbxy2.out]; rfl, by show y2.cell? ⟨X, 1, none⟩ = _; rw [cell_of_row _ _ 1 _ _ _ Nbxy2.out]; rfl⟩
    clear hK K
    try simp only [Act.put, List.setIfInBounds_toArray, List.set_cons_zero, List.set_cons_succ]
    refine tk 9 25 (.pointer (some ⟨G2, m2, none⟩)) ?_
    simp only [Act.put, List.setIfInBounds_toArray, List.set_cons_zero, List.set_cons_succ]
    refine wpAnyH_ready (rs := [10]) (by kernel_rfl) (by simp) ?_
    refine AllReadyH.cons rfl (fun K hK => ?_) AllReadyH.nil
    obtain ⟨cur, hcur, hgl⟩ := owns_row492 SBy2.out
    obtain ⟨b, off, cap, z0, hv, -, -, k0⟩ := (intsRow_of_owns SBy2.out rfl).at.at (k := m2) hm2c
    cases hv
    simp only [Nat.zero_add] at k0
    have fz0 : y2.frozen? ⟨G2, m2, none⟩ = false := frozen_of_row _ _ m2 _ _ hcur
    go_simp
    obtain ⟨y3, hx⟩ : ∃ Y, y2.setCell ⟨G2, m2, none⟩ (.int .i64 z) = Y := ⟨_, rfl⟩
    have hb : Below lo y2 y3 := by rw [← hx]; exact (Below.refl _ _).setCell (p := ⟨G2, m2, none⟩) hgl _
    have hgx := owns_ne478 SBy2.out Nbxy2.out (by decide) G2 rfl
    have Nbxy3 : Hid (y3.heap[X]? = some (.cells #[.slice (some ⟨G1, 0, none⟩) ks.length c1, .slice (some ⟨G2, 0, none⟩) ns.length c2] 26 (0, 0))) := by show _ = _; rw [← hx, heap_oth405 _ _ (by omega)]; exact Nbxy2.out
    have SBy3 : Hid (y3.ownsRow lo 3 1 (.slice (some ⟨G2, 0, none⟩) ns.length c2) ns.length (intsV (ns.set m2 z))) := by
      show World.ownsRow _ _ _ _ _ _ _
      rw [← setI_492, ← hx]
      exact owns_poke492 SBy2.out m2 _ (by simp [intsV]; omega)
    have SAy3 : Hid (y3.ownsRow lo 9 1 (.slice (some ⟨G1, 0, none⟩) ks.length c1) ks.length (texts ks)) := by
      show World.ownsRow _ _ _ _ _ _ _
      rw [← hx]
      exact owns_cell478 SAy2.out (apart492 SAy2.out SBy2.out (by decide) rfl) m2 _
    have RDy3 : Hid (RdAt y3 blk (q + 1 + 1)) := RDy2.out.lo492 hb (by omega)
    have Ky3 : Hid (Kept blk w y3) := Ky2.out.lo492 hb (by omega)
    have Nbry3 : Hid (y3.heap[w.heap.size]? = some (.cells #[.slice none 0 0, .slice none 0 0] 26 (0, 0))) := (hb.block _ (by omega)).trans Nbry2.out
    have Zy3 : Hid (y2.heap.size ≤ y3.heap.size) := hb.size
    rw [hx]
    clear hx hb hcur
    refine hK.out _ _ ?_ (fun hHeld => ?_)
    · exact ⟨by show y3.cell? ⟨X, 0, none⟩ = _; rw [cell_of_row _ _ 0 _ _ _ Nbxy3.out]; rfl, by show y3.cell? ⟨X, 1, none⟩ = _; rw [cell_of_row _ _ 1 _ _ _ Nbxy3.out]; rfl⟩
    clear hK K
    try simp only [Act.put, List.setIfInBounds_toArray, List.set_cons_zero, List.set_cons_succ]
    refine wpAnyH_done (by kernel_rfl) ?_ _
    have y0 : y3.cell? ⟨X, 0, none⟩ = some (.slice (some ⟨G1, 0, none⟩) ks.length c1) := by rw [cell_of_row _ _ 0 _ _ _ Nbxy3.out]; rfl
    have y1 : y3.cell? ⟨X, 1, none⟩ = some (.slice (some ⟨G2, 0, none⟩) ns.length c2) := by rw [cell_of_row _ _ 1 _ _ _ Nbxy3.out]; rfl
    obtain ⟨V6, hV6⟩ : ∃ Y, y3.setRow w.heap.size #[.slice (some ⟨G1, 0, none⟩) ks.length c1, .slice (some ⟨G2, 0, none⟩) ns.length c2] = Y := ⟨_, rfl⟩
    have NxV : Hid (V6.heap[w.heap.size]? = some (.cells #[.slice (some ⟨G1, 0, none⟩) ks.length c1, .slice (some ⟨G2, 0, none⟩) ns.length c2] 26 (0, 0))) := (by show _ = _; rw [← hV6]; exact setRow_heap _ _ _ _ _ _ Nbry3.out)
    have RV6 : Hid (RdAt V6 blk (q + 1 + 1)) := (by show RdAt _ _ _; rw [← hV6]; exact RDy3.out.setRow (by omega) _)
    have KV6 : Hid (Kept blk w V6) := (by show Kept _ _ _; rw [← hV6]; exact Ky3.out.setRow (Nat.le_refl _) _)
    have OV6 : Hid (RingOwn lo V6.heap.size V6 (.agg #[.slice (some ⟨G1, 0, none⟩) ks.length c1, .slice (some ⟨G2, 0, none⟩) ns.length c2]) (ks, (ns.set m2 z))) := (by have h8 : RingOwn lo y3.heap.size y3 (.agg #[.slice (some ⟨G1, 0, none⟩) ks.length c1, .slice (some ⟨G2, 0, none⟩) ns.length c2]) (ks, (ns.set m2 z)) := (ring_of_rows (textsRow_of_owns SAy3.out rfl HFIT.out) (intsRow_of_owns SBy3.out (by simp))); have h9 := h8.setRowR Nbry3.out #[.slice (some ⟨G1, 0, none⟩) ks.length c1, .slice (some ⟨G2, 0, none⟩) ns.length c2]; have hs : V6.heap.size = y3.heap.size := (by rw [← hV6]; simp); rw [hV6, ← hs] at h9; exact h9)
    have HV6 : Hid (y3.setRow w.heap.size #[.slice (some ⟨G1, 0, none⟩) ks.length c1, .slice (some ⟨G2, 0, none⟩) ns.length c2] = V6) := hV6
    have v0 : V6.cell? ⟨w.heap.size, 0, none⟩ = some (.slice (some ⟨G1, 0, none⟩) ks.length c1) := (by rw [cell_of_row _ _ 0 _ _ _ NxV.out]; rfl)
    have v1 : V6.cell? ⟨w.heap.size, 1, none⟩ = some (.slice (some ⟨G2, 0, none⟩) ns.length c2) := (by rw [cell_of_row _ _ 1 _ _ _ NxV.out]; rfl)
    clear hV6
    go_wp2_with (refine wpList_store_row rfl 26 _ _ rfl w.heap.size #[.slice (some ⟨G1, 0, none⟩) ks.length c1, .slice (some ⟨G2, 0, none⟩) ns.length c2] rfl rfl 26 _ Nbry3.out HSZ.out rfl (by simp [Value.oneCell']) ?_; rw [HV6.out])
    refine bodyPost_ret (v := .agg #[.slice (some ⟨G1, 0, none⟩) ks.length c1, .slice (some ⟨G2, 0, none⟩) ns.length c2]) (by simp [results, Tryd.results18, go_sem, v0, v1]) rfl ⟨(ks, (ns.set m2 z)), _, _, _, _, _, _, rfl, OV6.out.weak480 (by omega) (Nat.le_refl _), ⟨_, RV6.out, by omega⟩, KV6.out⟩
  have h1i : (v == 1) = false := by simp [h1]
  by_cases h2 : v = 2
  · subst h2
    have x0 : w4.cell? ⟨X, 0, none⟩ = some (.slice (some ⟨G1, 0, none⟩) ks.length c1) := by rw [cell_of_row _ _ 0 _ _ _ Nbxw4.out]; rfl
    have x1 : w4.cell? ⟨X, 1, none⟩ = some (.slice (some ⟨G2, 0, none⟩) ns.length c2) := by rw [cell_of_row _ _ 1 _ _ _ Nbxw4.out]; rfl
    have hl4 : X < w4.heap.size := (Array.getElem?_eq_some_iff.1 Nbxw4.out).1
    have Q1 : Hid ((w4.alloc (.cells #[.string ⟨#[107, 101, 121]⟩] 9)).ownsRow lo 9 1 (.slice (some ⟨G1, 0, none⟩) ks.length c1) ks.length (texts ks)) := owns_below SAw4.out ((Below.refl _ _).alloc (Nat.le_refl _) _)
    have Q2 : Hid ((w4.alloc (.cells #[.string ⟨#[107, 101, 121]⟩] 9)).ownsRow lo 3 1 (.slice (some ⟨G2, 0, none⟩) ns.length c2) ns.length (intsV ns)) := owns_below SBw4.out ((Below.refl _ _).alloc (Nat.le_refl _) _)
    have NK : Hid ((w4.alloc (.cells #[.string ⟨#[107, 101, 121]⟩] 9)).heap[w4.heap.size]? = some (.cells #[.string ⟨#[107, 101, 121]⟩] 9 (0, 0))) := heap_alloc_last _ _
    have NX2 : Hid ((w4.alloc (.cells #[.string ⟨#[107, 101, 121]⟩] 9)).heap[X]? = some (.cells #[.slice (some ⟨G1, 0, none⟩) ks.length c1, .slice (some ⟨G2, 0, none⟩) ns.length c2] 26 (0, 0))) := by show _ = _; rw [Below.heap_alloc _ _ _ hl4]; exact Nbxw4.out
    go_wp2_with (first | (at_builtin; refine wpList_append_own _ rfl _ _ 23 rfl lo 9 i3 (.string ⟨#[]⟩) 1 16 Tryd.underlying23 hi3 hz3' hs3 hb3' rfl (by decide) (.slice (some ⟨G1, 0, none⟩) ks.length c1) ks.length (texts ks) rfl Q1.out ⟨w4.heap.size, 0, none⟩ 1 1 [.string ⟨#[107, 101, 121]⟩] rfl rfl (news_cells NK.out) (one_text ⟨#[107, 101, 121]⟩) (by unfold maxLen; omega) (by omega) (by rw [World.size_alloc]; omega) ?_; intro U3 w5 hown3 hgrow3 hnil3; obtain ⟨G3, C3, rfl, -, -⟩ := World.ownsRow.form hown3 (Nat.succ_pos _); have SAw5 : Hid (w5.ownsRow lo 9 1 (.slice (some ⟨G3, 0, none⟩) (ks.length + 1) C3) (ks.length + 1) (texts (ks ++ [⟨#[107, 101, 121]⟩]))) := (by rw [texts_long] at hown3; exact hown3); have SBw5 : Hid (w5.ownsRow lo 3 1 (.slice (some ⟨G2, 0, none⟩) ns.length c2) ns.length (intsV ns)) := owns_grown Q2.out Q1.out (by decide) hgrow3; have hbA : Below lo w4 w5 := (((Below.refl lo w4).alloc (by omega) _).trans (below_of_grown hgrow3 (fun z hz => (World.ownsRow.lt Q1.out z hz).1) (by rw [World.size_alloc]; omega))); have Nbxw5 : Hid (w5.heap[X]? = some (.cells #[.slice (some ⟨G1, 0, none⟩) ks.length c1, .slice (some ⟨G2, 0, none⟩) ns.length c2] 26 (0, 0))) := (hgrow3.block X (lt_of_block405 NX2.out) (fun e => owns_ne478 Q1.out NX2.out (by decide) _ e.symm rfl)).trans NX2.out; clear x0 x1; have q0 : w5.cell? ⟨X, 0, none⟩ = some (.slice (some ⟨G1, 0, none⟩) ks.length c1) := (by rw [cell_of_row _ _ 0 _ _ _ Nbxw5.out]; rfl); have q1 : w5.cell? ⟨X, 1, none⟩ = some (.slice (some ⟨G2, 0, none⟩) ns.length c2) := (by rw [cell_of_row _ _ 1 _ _ _ Nbxw5.out]; rfl); have q2 : w5.frozen? ⟨X, 0, none⟩ = false := frozen_of_row _ _ 0 _ _ Nbxw5.out; obtain ⟨V5, hV5⟩ : ∃ Y, w5.setCell ⟨X, 0, none⟩ (.slice (some ⟨G3, 0, none⟩) (ks.length + 1) C3) = Y := ⟨_, rfl⟩; have hb5 : Below lo w4 V5 := (by rw [← hV5]; exact hbA.setCell (p := ⟨X, 0, none⟩) hX1 _); have NbxV5 : Hid (V5.heap[X]? = some (.cells #[.slice (some ⟨G3, 0, none⟩) (ks.length + 1) C3, .slice (some ⟨G2, 0, none⟩) ns.length c2] 26 (0, 0))) := (by show _ = _; rw [← hV5]; exact box0_492 Nbxw5.out _); have SAV5 : Hid (V5.ownsRow lo 9 1 (.slice (some ⟨G3, 0, none⟩) (ks.length + 1) C3) (ks.length + 1) (texts (ks ++ [⟨#[107, 101, 121]⟩]))) := (by show World.ownsRow _ _ _ _ _ _ _; rw [← hV5]; exact owns_cell478 SAw5.out (owns_ne478 SAw5.out Nbxw5.out (by decide)) 0 _); have SBV5 : Hid (V5.ownsRow lo 3 1 (.slice (some ⟨G2, 0, none⟩) ns.length c2) ns.length (intsV ns)) := (by show World.ownsRow _ _ _ _ _ _ _; rw [← hV5]; exact owns_cell478 SBw5.out (owns_ne478 SBw5.out Nbxw5.out (by decide)) 0 _); have RDV5 : Hid (RdAt V5 blk (q + 1)) := RDw4.out.lo492 hb5 (by omega); have KV5 : Hid (Kept blk w V5) := Kw4.out.lo492 hb5 (by omega); have NbrV5 : Hid (V5.heap[w.heap.size]? = some (.cells #[.slice none 0 0, .slice none 0 0] 26 (0, 0))) := (hb5.block _ (by omega)).trans Nbrw4.out; have HV5 : Hid (w5.setCell ⟨X, 0, none⟩ (.slice (some ⟨G3, 0, none⟩) (ks.length + 1) C3) = V5) := hV5; clear hown3 hgrow3 hnil3 hbA hb5 hV5; have y0 : V5.cell? ⟨X, 0, none⟩ = some (.slice (some ⟨G3, 0, none⟩) (ks.length + 1) C3) := (by rw [cell_of_row _ _ 0 _ _ _ NbxV5.out]; rfl); have y1 : V5.cell? ⟨X, 1, none⟩ = some (.slice (some ⟨G2, 0, none⟩) ns.length c2) := (by rw [cell_of_row _ _ 1 _ _ _ NbxV5.out]; rfl); obtain ⟨V6, hV6⟩ : ∃ Y, V5.setRow w.heap.size #[.slice (some ⟨G3, 0, none⟩) (ks.length + 1) C3, .slice (some ⟨G2, 0, none⟩) ns.length c2] = Y := ⟨_, rfl⟩; have NxV : Hid (V6.heap[w.heap.size]? = some (.cells #[.slice (some ⟨G3, 0, none⟩) (ks.length + 1) C3, .slice (some ⟨G2, 0, none⟩) ns.length c2] 26 (0, 0))) := (by show _ = _; rw [← hV6]; exact setRow_heap _ _ _ _ _ _ NbrV5.out); have RV6 : Hid (RdAt V6 blk (q + 1)) := (by show RdAt _ _ _; rw [← hV6]; exact RDV5.out.setRow (by omega) _); have KV6 : Hid (Kept blk w V6) := (by show Kept _ _ _; rw [← hV6]; exact KV5.out.setRow (Nat.le_refl _) _); have OV6 : Hid (RingOwn lo V6.heap.size V6 (.agg #[.slice (some ⟨G3, 0, none⟩) (ks.length + 1) C3, .slice (some ⟨G2, 0, none⟩) ns.length c2]) ((ks ++ [⟨#[107, 101, 121]⟩]), ns)) := (by have h8 : RingOwn lo V5.heap.size V5 (.agg #[.slice (some ⟨G3, 0, none⟩) (ks.length + 1) C3, .slice (some ⟨G2, 0, none⟩) ns.length c2]) ((ks ++ [⟨#[107, 101, 121]⟩]), ns) := (ring_of_rows (textsRow_of_owns SAV5.out (by simp) (long_fit492 HFIT.out (by unfold maxLen; decide))) (intsRow_of_owns SBV5.out rfl)); have h9 := h8.setRowR NbrV5.out #[.slice (some ⟨G3, 0, none⟩) (ks.length + 1) C3, .slice (some ⟨G2, 0, none⟩) ns.length c2]; have hs : V6.heap.size = V5.heap.size := (by rw [← hV6]; simp); rw [hV6, ← hs] at h9; exact h9); have HV6 : Hid (V5.setRow w.heap.size #[.slice (some ⟨G3, 0, none⟩) (ks.length + 1) C3, .slice (some ⟨G2, 0, none⟩) ns.length c2] = V6) := hV6; have v0 : V6.cell? ⟨w.heap.size, 0, none⟩ = some (.slice (some ⟨G3, 0, none⟩) (ks.length + 1) C3) := (by rw [cell_of_row _ _ 0 _ _ _ NxV.out]; rfl); have v1 : V6.cell? ⟨w.heap.size, 1, none⟩ = some (.slice (some ⟨G2, 0, none⟩) ns.length c2) := (by rw [cell_of_row _ _ 1 _ _ _ NxV.out]; rfl); clear hV6) | rw [HV5.out] | (refine wpList_store_row rfl 26 _ _ rfl w.heap.size #[.slice (some ⟨G3, 0, none⟩) (ks.length + 1) C3, .slice (some ⟨G2, 0, none⟩) ns.length c2] rfl rfl 26 _ NbrV5.out HSZ.out rfl (by simp [Value.oneCell']) ?_; rw [HV6.out]))
    refine bodyPost_ret (v := .agg #[.slice (some ⟨G3, 0, none⟩) (ks.length + 1) C3, .slice (some ⟨G2, 0, none⟩) ns.length c2]) (by simp [results, Tryd.results18, go_sem, v0, v1]) rfl ⟨((ks ++ [⟨#[107, 101, 121]⟩]), ns), _, _, _, _, _, _, rfl, OV6.out.weak480 (by omega) (Nat.le_refl _), ⟨_, RV6.out, by omega⟩, KV6.out⟩
  have h2i : (v == 2) = false := by simp [h2]
  by_cases h3 : v = 3
  · subst h3
    have x0 : w4.cell? ⟨X, 0, none⟩ = some (.slice (some ⟨G1, 0, none⟩) ks.length c1) := by rw [cell_of_row _ _ 0 _ _ _ Nbxw4.out]; rfl
    have x1 : w4.cell? ⟨X, 1, none⟩ = some (.slice (some ⟨G2, 0, none⟩) ns.length c2) := by rw [cell_of_row _ _ 1 _ _ _ Nbxw4.out]; rfl
    have hl4 : X < w4.heap.size := (Array.getElem?_eq_some_iff.1 Nbxw4.out).1
    have Q1 : Hid ((w4.alloc (.cells #[.string ⟨#[113]⟩] 9)).ownsRow lo 9 1 (.slice (some ⟨G1, 0, none⟩) ks.length c1) ks.length (texts ks)) := owns_below SAw4.out ((Below.refl _ _).alloc (Nat.le_refl _) _)
    have Q2 : Hid ((w4.alloc (.cells #[.string ⟨#[113]⟩] 9)).ownsRow lo 3 1 (.slice (some ⟨G2, 0, none⟩) ns.length c2) ns.length (intsV ns)) := owns_below SBw4.out ((Below.refl _ _).alloc (Nat.le_refl _) _)
    have NK : Hid ((w4.alloc (.cells #[.string ⟨#[113]⟩] 9)).heap[w4.heap.size]? = some (.cells #[.string ⟨#[113]⟩] 9 (0, 0))) := heap_alloc_last _ _
    have NX2 : Hid ((w4.alloc (.cells #[.string ⟨#[113]⟩] 9)).heap[X]? = some (.cells #[.slice (some ⟨G1, 0, none⟩) ks.length c1, .slice (some ⟨G2, 0, none⟩) ns.length c2] 26 (0, 0))) := by show _ = _; rw [Below.heap_alloc _ _ _ hl4]; exact Nbxw4.out
    go_wp2_with (first | (at_builtin; refine wpList_append_own _ rfl _ _ 23 rfl lo 9 i3 (.string ⟨#[]⟩) 1 16 Tryd.underlying23 hi3 hz3' hs3 hb3' rfl (by decide) (.slice (some ⟨G1, 0, none⟩) ks.length c1) ks.length (texts ks) rfl Q1.out ⟨w4.heap.size, 0, none⟩ 1 1 [.string ⟨#[113]⟩] rfl rfl (news_cells NK.out) (one_text ⟨#[113]⟩) (by unfold maxLen; omega) (by omega) (by rw [World.size_alloc]; omega) ?_; intro U3 w5 hown3 hgrow3 hnil3; obtain ⟨G3, C3, rfl, -, -⟩ := World.ownsRow.form hown3 (Nat.succ_pos _); have SAw5 : Hid (w5.ownsRow lo 9 1 (.slice (some ⟨G3, 0, none⟩) (ks.length + 1) C3) (ks.length + 1) (texts (ks ++ [⟨#[113]⟩]))) := (by rw [texts_long] at hown3; exact hown3); have SBw5 : Hid (w5.ownsRow lo 3 1 (.slice (some ⟨G2, 0, none⟩) ns.length c2) ns.length (intsV ns)) := owns_grown Q2.out Q1.out (by decide) hgrow3; have hbA : Below lo w4 w5 := (((Below.refl lo w4).alloc (by omega) _).trans (below_of_grown hgrow3 (fun z hz => (World.ownsRow.lt Q1.out z hz).1) (by rw [World.size_alloc]; omega))); have Nbxw5 : Hid (w5.heap[X]? = some (.cells #[.slice (some ⟨G1, 0, none⟩) ks.length c1, .slice (some ⟨G2, 0, none⟩) ns.length c2] 26 (0, 0))) := (hgrow3.block X (lt_of_block405 NX2.out) (fun e => owns_ne478 Q1.out NX2.out (by decide) _ e.symm rfl)).trans NX2.out; clear x0 x1; have q0 : w5.cell? ⟨X, 0, none⟩ = some (.slice (some ⟨G1, 0, none⟩) ks.length c1) := (by rw [cell_of_row _ _ 0 _ _ _ Nbxw5.out]; rfl); have q1 : w5.cell? ⟨X, 1, none⟩ = some (.slice (some ⟨G2, 0, none⟩) ns.length c2) := (by rw [cell_of_row _ _ 1 _ _ _ Nbxw5.out]; rfl); have q2 : w5.frozen? ⟨X, 0, none⟩ = false := frozen_of_row _ _ 0 _ _ Nbxw5.out; obtain ⟨V5, hV5⟩ : ∃ Y, w5.setCell ⟨X, 0, none⟩ (.slice (some ⟨G3, 0, none⟩) (ks.length + 1) C3) = Y := ⟨_, rfl⟩; have hb5 : Below lo w4 V5 := (by rw [← hV5]; exact hbA.setCell (p := ⟨X, 0, none⟩) hX1 _); have NbxV5 : Hid (V5.heap[X]? = some (.cells #[.slice (some ⟨G3, 0, none⟩) (ks.length + 1) C3, .slice (some ⟨G2, 0, none⟩) ns.length c2] 26 (0, 0))) := (by show _ = _; rw [← hV5]; exact box0_492 Nbxw5.out _); have SAV5 : Hid (V5.ownsRow lo 9 1 (.slice (some ⟨G3, 0, none⟩) (ks.length + 1) C3) (ks.length + 1) (texts (ks ++ [⟨#[113]⟩]))) := (by show World.ownsRow _ _ _ _ _ _ _; rw [← hV5]; exact owns_cell478 SAw5.out (owns_ne478 SAw5.out Nbxw5.out (by decide)) 0 _); have SBV5 : Hid (V5.ownsRow lo 3 1 (.slice (some ⟨G2, 0, none⟩) ns.length c2) ns.length (intsV ns)) := (by show World.ownsRow _ _ _ _ _ _ _; rw [← hV5]; exact owns_cell478 SBw5.out (owns_ne478 SBw5.out Nbxw5.out (by decide)) 0 _); have RDV5 : Hid (RdAt V5 blk (q + 1)) := RDw4.out.lo492 hb5 (by omega); have KV5 : Hid (Kept blk w V5) := Kw4.out.lo492 hb5 (by omega); have NbrV5 : Hid (V5.heap[w.heap.size]? = some (.cells #[.slice none 0 0, .slice none 0 0] 26 (0, 0))) := (hb5.block _ (by omega)).trans Nbrw4.out; have HV5 : Hid (w5.setCell ⟨X, 0, none⟩ (.slice (some ⟨G3, 0, none⟩) (ks.length + 1) C3) = V5) := hV5; clear hown3 hgrow3 hnil3 hbA hb5 hV5) | fail)
    rw [HV5.out]
    clear q0 q1 q2
    refine wp_region_held_drew (S := (fun w' => True)) (by kernel_rfl) ?_ (fun hHeld => ?_)
    · exact trivial
    refine tk 0 40 (.pointer (some ⟨X, 1, none⟩)) ?_
    simp only [Act.put, List.setIfInBounds_toArray, List.set_cons_zero, List.set_cons_succ]
    refine tk 2 42 (.pointer (some ⟨blk, 0, none⟩)) ?_
    simp only [Act.put, List.setIfInBounds_toArray, List.set_cons_zero, List.set_cons_succ]
    obtain ⟨y0, hx⟩ : ∃ X, World.drew V5 = X := ⟨_, rfl⟩
    have Ky0 : Hid (Kept blk w y0) := by show Kept _ _ _; rw [← hx]; exact KV5.out.trans (Kept.of_below (Below.refl _ _).drew)
    have Zy0 : Hid (V5.heap.size ≤ y0.heap.size) := by show _ ≤ _; rw [← hx]; exact Nat.le_refl _
    have RDy0 : Hid (RdAt y0 blk (q + 1)) := by have h9 := RDV5.out.keep (Below.refl _ _).drew; rw [hx] at h9; exact h9
    have SAy0 : Hid (y0.ownsRow lo 9 1 (.slice (some ⟨G3, 0, none⟩) (ks.length + 1) C3) (ks.length + 1) (texts (ks ++ [⟨#[113]⟩]))) := by have h9 := owns_below SAV5.out (Below.refl _ _).drew; rw [hx] at h9; exact h9
    have SBy0 : Hid (y0.ownsRow lo 3 1 (.slice (some ⟨G2, 0, none⟩) ns.length c2) ns.length (intsV ns)) := by have h9 := owns_below SBV5.out (Below.refl _ _).drew; rw [hx] at h9; exact h9
    have Nbry0 : Hid (y0.heap[w.heap.size]? = some (.cells #[.slice none 0 0, .slice none 0 0] 26 (0, 0))) := by show _ = _; rw [← hx]; exact NbrV5.out
    have Nbxy0 : Hid (y0.heap[X]? = some (.cells #[.slice (some ⟨G3, 0, none⟩) (ks.length + 1) C3, .slice (some ⟨G2, 0, none⟩) ns.length c2] 26 (0, 0))) := by show _ = _; rw [← hx]; exact NbxV5.out
    rw [hx]
    clear hx
    refine wpAnyH_ready (rs := [1, 3]) (by kernel_rfl) (by simp) ?_
    refine AllReadyH.cons rfl (fun K hK => ?_) (AllReadyH.cons rfl (fun K hK => ?_) AllReadyH.nil)
    · skip
      have q1 : y0.cell? ⟨X, 1, none⟩ = some (.slice (some ⟨G2, 0, none⟩) ns.length c2) := by rw [cell_of_row _ _ 1 _ _ _ Nbxy0.out]; rfl
      go_simp
      refine hK.out _ _ ?_ (fun hHeld => ?_)
      · exact trivial
      clear hK K
      try simp only [Act.put, List.setIfInBounds_toArray, List.set_cons_zero, List.set_cons_succ]
      refine wpAnyH_ready (rs := [3]) (by kernel_rfl) (by simp) ?_
      refine AllReadyH.cons rfl (fun K hK => ?_) AllReadyH.nil
      go_simp
      have NA : Hid ((y0.alloc (.cells #[.int .i64 1, .int .i64 50] 3)).heap[y0.heap.size]? = some (.cells #[.int .i64 1, .int .i64 50] 3 (0, 0))) := heap_alloc_last _ _
      obtain ⟨y1, hx⟩ : ∃ X, y0.alloc (.cells #[.int .i64 1, .int .i64 50] 3) = X := ⟨_, rfl⟩
      have hb : Below y0.heap.size y0 y1 := by rw [← hx]; exact (Below.refl _ _).alloc (Nat.le_refl _) _
      have Zy1 : Hid (y0.heap.size < y1.heap.size) := by show _ < _; rw [← hx]; simp
      have Nq43_y1 : Hid (y1.heap[y0.heap.size]? = some (.cells #[.int .i64 1, .int .i64 50] 3 (0, 0))) := by show _ = _; rw [← hx]; exact NA.out
      have Ky1 : Hid (Kept blk w y1) := Ky0.out.trans (Kept.of_below hb)
      have HQq43_ : Hid (w.heap.size ≤ y0.heap.size) := Ky0.out.size
      have RDy1 : Hid (RdAt y1 blk (q + 1)) := RDy0.out.keep hb
      have SAy1 : Hid (y1.ownsRow lo 9 1 (.slice (some ⟨G3, 0, none⟩) (ks.length + 1) C3) (ks.length + 1) (texts (ks ++ [⟨#[113]⟩]))) := owns_below SAy0.out hb
      have SBy1 : Hid (y1.ownsRow lo 3 1 (.slice (some ⟨G2, 0, none⟩) ns.length c2) ns.length (intsV ns)) := owns_below SBy0.out hb
      have Nbry1 : Hid (y1.heap[w.heap.size]? = some (.cells #[.slice none 0 0, .slice none 0 0] 26 (0, 0))) := (hb.block _ (Array.getElem?_eq_some_iff.1 Nbry0.out).1).trans Nbry0.out
      have Nbxy1 : Hid (y1.heap[X]? = some (.cells #[.slice (some ⟨G3, 0, none⟩) (ks.length + 1) C3, .slice (some ⟨G2, 0, none⟩) ns.length c2] 26 (0, 0))) := (hb.block _ (Array.getElem?_eq_some_iff.1 Nbxy0.out).1).trans Nbxy0.out
      rw [hx]
      clear hx NA hb
      refine hK.out _ _ ?_ (fun hHeld => ?_)
      · exact trivial
      clear hK K
      try simp only [Act.put, List.setIfInBounds_toArray, List.set_cons_zero, List.set_cons_succ]
      refine wpAnyH_ready (rs := [4]) (by kernel_rfl) (by simp) ?_
      refine AllReadyH.cons rfl (fun K hK => ?_) AllReadyH.nil
      go_simp
      refine (one492_any _ blk (q + 1) (y0.heap.size) 2 2 RDy1.out (by omega) (by omega) (by omega) (fun i hi => by match i, hi with | 0, _ => exact ⟨_, by rw [cell_of_row _ _ 0 _ _ _ Nq43_y1.out]; rfl⟩ | 1, _ => exact ⟨_, by rw [cell_of_row _ _ 1 _ _ _ Nq43_y1.out]; rfl⟩) (by have := HQq43_.out; omega)).mono ?_
      rintro e y2 ⟨z, rfl, hr, hb⟩
      have Zy2 : Hid (y1.heap.size ≤ y2.heap.size) := hb.size
      have Ky2 : Hid (Kept blk w y2) := Ky1.out.trans hb
      have SAy2 : Hid (y2.ownsRow lo 9 1 (.slice (some ⟨G3, 0, none⟩) (ks.length + 1) C3) (ks.length + 1) (texts (ks ++ [⟨#[113]⟩]))) := owns_kept492 SAy1.out hb (by omega)
      have SBy2 : Hid (y2.ownsRow lo 3 1 (.slice (some ⟨G2, 0, none⟩) ns.length c2) ns.length (intsV ns)) := owns_kept492 SBy1.out hb (by omega)
      have Nbry2 : Hid (y2.heap[w.heap.size]? = some (.cells #[.slice none 0 0, .slice none 0 0] 26 (0, 0))) := (hb.block _ (Array.getElem?_eq_some_iff.1 Nbry1.out).1 (by first | omega | (have := HQbr.out; omega))).trans Nbry1.out
      have Nbxy2 : Hid (y2.heap[X]? = some (.cells #[.slice (some ⟨G3, 0, none⟩) (ks.length + 1) C3, .slice (some ⟨G2, 0, none⟩) ns.length c2] 26 (0, 0))) := (hb.block _ (Array.getElem?_eq_some_iff.1 Nbxy1.out).1 (by first | omega | (have := HQbx.out; omega))).trans Nbxy1.out
      have RDy2 : Hid (RdAt y2 blk (q + 1 + 1)) := hr
      clear hb
      refine hK.out _ _ ?_ (fun hHeld => ?_)
      · exact trivial
      clear hK K
      try simp only [Act.put, List.setIfInBounds_toArray, List.set_cons_zero, List.set_cons_succ]
      refine wpAnyH_ready (rs := [5]) (by kernel_rfl) (by simp) ?_
      refine AllReadyH.cons rfl (fun K hK => ?_) AllReadyH.nil
      go_simp
      have NA : Hid ((y2.alloc (.cells #[.int .i64 z] 3)).heap[y2.heap.size]? = some (.cells #[.int .i64 z] 3 (0, 0))) := heap_alloc_last _ _
      obtain ⟨y3, hx⟩ : ∃ X, y2.alloc (.cells #[.int .i64 z] 3) = X := ⟨_, rfl⟩
      have hb : Below y2.heap.size y2 y3 := by rw [← hx]; exact (Below.refl _ _).alloc (Nat.le_refl _) _
      have Zy3 : Hid (y2.heap.size < y3.heap.size) := by show _ < _; rw [← hx]; simp
      have Nq45_y3 : Hid (y3.heap[y2.heap.size]? = some (.cells #[.int .i64 z] 3 (0, 0))) := by show _ = _; rw [← hx]; exact NA.out
      have Ky3 : Hid (Kept blk w y3) := Ky2.out.trans (Kept.of_below hb)
      have HQq45_ : Hid (w.heap.size ≤ y2.heap.size) := Ky2.out.size
      have SAy3 : Hid (y3.ownsRow lo 9 1 (.slice (some ⟨G3, 0, none⟩) (ks.length + 1) C3) (ks.length + 1) (texts (ks ++ [⟨#[113]⟩]))) := owns_below SAy2.out hb
      have SBy3 : Hid (y3.ownsRow lo 3 1 (.slice (some ⟨G2, 0, none⟩) ns.length c2) ns.length (intsV ns)) := owns_below SBy2.out hb
      have RDy3 : Hid (RdAt y3 blk (q + 1 + 1)) := RDy2.out.keep hb
      have Nbry3 : Hid (y3.heap[w.heap.size]? = some (.cells #[.slice none 0 0, .slice none 0 0] 26 (0, 0))) := (hb.block _ (Array.getElem?_eq_some_iff.1 Nbry2.out).1).trans Nbry2.out
      have Nbxy3 : Hid (y3.heap[X]? = some (.cells #[.slice (some ⟨G3, 0, none⟩) (ks.length + 1) C3, .slice (some ⟨G2, 0, none⟩) ns.length c2] 26 (0, 0))) := (hb.block _ (Array.getElem?_eq_some_iff.1 Nbxy2.out).1).trans Nbxy2.out
      rw [hx]
      clear hx NA hb
      refine hK.out _ _ ?_ (fun hHeld => ?_)
      · exact trivial
      clear hK K
      try simp only [Act.put, List.setIfInBounds_toArray, List.set_cons_zero, List.set_cons_succ]
      refine wpAnyH_ready (rs := [6]) (by kernel_rfl) (by simp) ?_
      refine AllReadyH.cons rfl (fun K hK => ?_) AllReadyH.nil
      have hloc : lo ≤ y3.heap.size := by have := (Array.getElem?_eq_some_iff.1 Nbxy3.out).1; omega
      refine step_append_own rfl (.tmp 41) (.tmp 45) 24 rfl lo 3 i4 (.int .i64 0) 1 8 Tryd.underlying24 hi4 hz4 hs4 hb4 rfl (by decide) (.slice (some ⟨G2, 0, none⟩) ns.length c2) ns.length (intsV ns) rfl SBy3.out ⟨y2.heap.size, 0, none⟩ 1 1 [.int .i64 z] rfl rfl (news_cells Nq45_y3.out) (one_int z) (by unfold maxLen; omega) (by omega) hloc ?_
      intro U4 y4 hown4 hgrow4 hnil4
      obtain ⟨G4, C4, rfl, -, -⟩ := World.ownsRow.form hown4 (Nat.succ_pos _)
      have SBy4 : Hid (y4.ownsRow lo 3 1 (.slice (some ⟨G4, 0, none⟩) (ns.length + 1) C4) (ns.length + 1) (intsV (ns ++ [z]))) := by rw [ints_long] at hown4; exact hown4
      have SAy4 : Hid (y4.ownsRow lo 9 1 (.slice (some ⟨G3, 0, none⟩) (ks.length + 1) C3) (ks.length + 1) (texts (ks ++ [⟨#[113]⟩]))) := owns_grown SAy3.out SBy3.out (by decide) hgrow4
      have hb : Below lo y3 y4 := below_of_grown hgrow4 (fun z hz => (World.ownsRow.lt SBy3.out z hz).1) hloc
      have Nbxy4 : Hid (y4.heap[X]? = some (.cells #[.slice (some ⟨G3, 0, none⟩) (ks.length + 1) C3, .slice (some ⟨G2, 0, none⟩) ns.length c2] 26 (0, 0))) := (hgrow4.block X (lt_of_block405 Nbxy3.out) (fun e => owns_ne478 SBy3.out Nbxy3.out (by decide) _ e.symm rfl)).trans Nbxy3.out
      have RDy4 : Hid (RdAt y4 blk (q + 1 + 1)) := RDy3.out.lo492 hb (by omega)
      have Ky4 : Hid (Kept blk w y4) := Ky3.out.lo492 hb (by omega)
      have Nbry4 : Hid (y4.heap[w.heap.size]? = some (.cells #[.slice none 0 0, .slice none 0 0] 26 (0, 0))) := (hb.block _ (by omega)).trans Nbry3.out
      have Zy4 : Hid (y3.heap.size ≤ y4.heap.size) := hb.size
      clear hb hloc hown4 hgrow4 hnil4
      refine hK.out _ _ ?_ (fun hHeld => ?_)
      · exact trivial
      clear hK K
      try simp only [Act.put, List.setIfInBounds_toArray, List.set_cons_zero, List.set_cons_succ]
      refine tk 7 47 (.pointer (some ⟨X, 1, none⟩)) ?_
      simp only [Act.put, List.setIfInBounds_toArray, List.set_cons_zero, List.set_cons_succ]
      refine wpAnyH_ready (rs := [8]) (by kernel_rfl) (by simp) ?_
      refine AllReadyH.cons rfl (fun K hK => ?_) AllReadyH.nil
      have q0 : y4.cell? ⟨X, 0, none⟩ = some (.slice (some ⟨G3, 0, none⟩) (ks.length + 1) C3) := by rw [cell_of_row _ _ 0 _ _ _ Nbxy4.out]; rfl
      have q1 : y4.cell? ⟨X, 1, none⟩ = some (.slice (some ⟨G2, 0, none⟩) ns.length c2) := by rw [cell_of_row _ _ 1 _ _ _ Nbxy4.out]; rfl
      have q2 : y4.frozen? ⟨X, 1, none⟩ = false := frozen_of_row _ _ 1 _ _ Nbxy4.out
      go_simp
      obtain ⟨y5, hx⟩ : ∃ Y, y4.setCell ⟨X, 1, none⟩ (.slice (some ⟨G4, 0, none⟩) (ns.length + 1) C4) = Y := ⟨_, rfl⟩
      have hb : Below lo y4 y5 := by rw [← hx]; exact (Below.refl _ _).setCell (p := ⟨X, 1, none⟩) hX1 _
      have Nbxy5 : Hid (y5.heap[X]? = some (.cells #[.slice (some ⟨G3, 0, none⟩) (ks.length + 1) C3, .slice (some ⟨G4, 0, none⟩) (ns.length + 1) C4] 26 (0, 0))) := by show _ = _; rw [← hx]; exact box1_492 Nbxy4.out _
      have SAy5 : Hid (y5.ownsRow lo 9 1 (.slice (some ⟨G3, 0, none⟩) (ks.length + 1) C3) (ks.length + 1) (texts (ks ++ [⟨#[113]⟩]))) := by show World.ownsRow _ _ _ _ _ _ _; rw [← hx]; exact owns_cell478 SAy4.out (owns_ne478 SAy4.out Nbxy4.out (by decide)) 1 _
      have SBy5 : Hid (y5.ownsRow lo 3 1 (.slice (some ⟨G4, 0, none⟩) (ns.length + 1) C4) (ns.length + 1) (intsV (ns ++ [z]))) := by show World.ownsRow _ _ _ _ _ _ _; rw [← hx]; exact owns_cell478 SBy4.out (owns_ne478 SBy4.out Nbxy4.out (by decide)) 1 _
      have RDy5 : Hid (RdAt y5 blk (q + 1 + 1)) := RDy4.out.lo492 hb (by omega)
      have Ky5 : Hid (Kept blk w y5) := Ky4.out.lo492 hb (by omega)
      have Nbry5 : Hid (y5.heap[w.heap.size]? = some (.cells #[.slice none 0 0, .slice none 0 0] 26 (0, 0))) := (hb.block _ (by omega)).trans Nbry4.out
      have Zy5 : Hid (y4.heap.size ≤ y5.heap.size) := hb.size
      rw [hx]
      clear hx hb q0 q1 q2
      refine hK.out _ _ ?_ (fun hHeld => ?_)
      · exact trivial
      clear hK K
      try simp only [Act.put, List.setIfInBounds_toArray, List.set_cons_zero, List.set_cons_succ]
      refine wpAnyH_done (by kernel_rfl) ?_ _
      have y0 : y5.cell? ⟨X, 0, none⟩ = some (.slice (some ⟨G3, 0, none⟩) (ks.length + 1) C3) := by rw [cell_of_row _ _ 0 _ _ _ Nbxy5.out]; rfl
      have y1 : y5.cell? ⟨X, 1, none⟩ = some (.slice (some ⟨G4, 0, none⟩) (ns.length + 1) C4) := by rw [cell_of_row _ _ 1 _ _ _ Nbxy5.out]; rfl
      obtain ⟨V6, hV6⟩ : ∃ Y, y5.setRow w.heap.size #[.slice (some ⟨G3, 0, none⟩) (ks.length + 1) C3, .slice (some ⟨G4, 0, none⟩) (ns.length + 1) C4] = Y := ⟨_, rfl⟩
      have NxV : Hid (V6.heap[w.heap.size]? = some (.cells #[.slice (some ⟨G3, 0, none⟩) (ks.length + 1) C3, .slice (some ⟨G4, 0, none⟩) (ns.length + 1) C4] 26 (0, 0))) := (by show _ = _; rw [← hV6]; exact setRow_heap _ _ _ _ _ _ Nbry5.out)
      have RV6 : Hid (RdAt V6 blk (q + 1 + 1)) := (by show RdAt _ _ _; rw [← hV6]; exact RDy5.out.setRow (by omega) _)
      have KV6 : Hid (Kept blk w V6) := (by show Kept _ _ _; rw [← hV6]; exact Ky5.out.setRow (Nat.le_refl _) _)
      have OV6 : Hid (RingOwn lo V6.heap.size V6 (.agg #[.slice (some ⟨G3, 0, none⟩) (ks.length + 1) C3, .slice (some ⟨G4, 0, none⟩) (ns.length + 1) C4]) ((ks ++ [⟨#[113]⟩]), (ns ++ [z]))) := (by have h8 : RingOwn lo y5.heap.size y5 (.agg #[.slice (some ⟨G3, 0, none⟩) (ks.length + 1) C3, .slice (some ⟨G4, 0, none⟩) (ns.length + 1) C4]) ((ks ++ [⟨#[113]⟩]), (ns ++ [z])) := (ring_of_rows (textsRow_of_owns SAy5.out (by simp) (long_fit492 HFIT.out (by unfold maxLen; decide))) (intsRow_of_owns SBy5.out (by simp))); have h9 := h8.setRowR Nbry5.out #[.slice (some ⟨G3, 0, none⟩) (ks.length + 1) C3, .slice (some ⟨G4, 0, none⟩) (ns.length + 1) C4]; have hs : V6.heap.size = y5.heap.size := (by rw [← hV6]; simp); rw [hV6, ← hs] at h9; exact h9)
      have HV6 : Hid (y5.setRow w.heap.size #[.slice (some ⟨G3, 0, none⟩) (ks.length + 1) C3, .slice (some ⟨G4, 0, none⟩) (ns.length + 1) C4] = V6) := hV6
      have v0 : V6.cell? ⟨w.heap.size, 0, none⟩ = some (.slice (some ⟨G3, 0, none⟩) (ks.length + 1) C3) := (by rw [cell_of_row _ _ 0 _ _ _ NxV.out]; rfl)
      have v1 : V6.cell? ⟨w.heap.size, 1, none⟩ = some (.slice (some ⟨G4, 0, none⟩) (ns.length + 1) C4) := (by rw [cell_of_row _ _ 1 _ _ _ NxV.out]; rfl)
      clear hV6
      go_wp2_with (refine wpList_store_row rfl 26 _ _ rfl w.heap.size #[.slice (some ⟨G3, 0, none⟩) (ks.length + 1) C3, .slice (some ⟨G4, 0, none⟩) (ns.length + 1) C4] rfl rfl 26 _ Nbry5.out HSZ.out rfl (by simp [Value.oneCell']) ?_; rw [HV6.out])
      refine bodyPost_ret (v := .agg #[.slice (some ⟨G3, 0, none⟩) (ks.length + 1) C3, .slice (some ⟨G4, 0, none⟩) (ns.length + 1) C4]) (by simp [results, Tryd.results18, go_sem, v0, v1]) rfl ⟨((ks ++ [⟨#[113]⟩]), (ns ++ [z])), _, _, _, _, _, _, rfl, OV6.out.weak480 (by omega) (Nat.le_refl _), ⟨_, RV6.out, by omega⟩, KV6.out⟩
    · skip
      go_simp
      have NA : Hid ((y0.alloc (.cells #[.int .i64 1, .int .i64 50] 3)).heap[y0.heap.size]? = some (.cells #[.int .i64 1, .int .i64 50] 3 (0, 0))) := heap_alloc_last _ _
      obtain ⟨y6, hx⟩ : ∃ X, y0.alloc (.cells #[.int .i64 1, .int .i64 50] 3) = X := ⟨_, rfl⟩
      have hb : Below y0.heap.size y0 y6 := by rw [← hx]; exact (Below.refl _ _).alloc (Nat.le_refl _) _
      have Zy6 : Hid (y0.heap.size < y6.heap.size) := by show _ < _; rw [← hx]; simp
      have Nq43_y6 : Hid (y6.heap[y0.heap.size]? = some (.cells #[.int .i64 1, .int .i64 50] 3 (0, 0))) := by show _ = _; rw [← hx]; exact NA.out
      have Ky6 : Hid (Kept blk w y6) := Ky0.out.trans (Kept.of_below hb)
      have HQq43_ : Hid (w.heap.size ≤ y0.heap.size) := Ky0.out.size
      have RDy6 : Hid (RdAt y6 blk (q + 1)) := RDy0.out.keep hb
      have SAy6 : Hid (y6.ownsRow lo 9 1 (.slice (some ⟨G3, 0, none⟩) (ks.length + 1) C3) (ks.length + 1) (texts (ks ++ [⟨#[113]⟩]))) := owns_below SAy0.out hb
      have SBy6 : Hid (y6.ownsRow lo 3 1 (.slice (some ⟨G2, 0, none⟩) ns.length c2) ns.length (intsV ns)) := owns_below SBy0.out hb
      have Nbry6 : Hid (y6.heap[w.heap.size]? = some (.cells #[.slice none 0 0, .slice none 0 0] 26 (0, 0))) := (hb.block _ (Array.getElem?_eq_some_iff.1 Nbry0.out).1).trans Nbry0.out
      have Nbxy6 : Hid (y6.heap[X]? = some (.cells #[.slice (some ⟨G3, 0, none⟩) (ks.length + 1) C3, .slice (some ⟨G2, 0, none⟩) ns.length c2] 26 (0, 0))) := (hb.block _ (Array.getElem?_eq_some_iff.1 Nbxy0.out).1).trans Nbxy0.out
      rw [hx]
      clear hx NA hb
      refine hK.out _ _ ?_ (fun hHeld => ?_)
      · exact trivial
      clear hK K
      try simp only [Act.put, List.setIfInBounds_toArray, List.set_cons_zero, List.set_cons_succ]
      refine wpAnyH_ready (rs := [1, 4]) (by kernel_rfl) (by simp) ?_
      refine AllReadyH.cons rfl (fun K hK => ?_) (AllReadyH.cons rfl (fun K hK => ?_) AllReadyH.nil)
      · skip
        have q1 : y6.cell? ⟨X, 1, none⟩ = some (.slice (some ⟨G2, 0, none⟩) ns.length c2) := by rw [cell_of_row _ _ 1 _ _ _ Nbxy6.out]; rfl
        go_simp
        refine hK.out _ _ ?_ (fun hHeld => ?_)
        · exact trivial
        clear hK K
        try simp only [Act.put, List.setIfInBounds_toArray, List.set_cons_zero, List.set_cons_succ]
        refine wpAnyH_ready (rs := [4]) (by kernel_rfl) (by simp) ?_
        refine AllReadyH.cons rfl (fun K hK => ?_) AllReadyH.nil
        go_simp
        refine (one492_any _ blk (q + 1) (y0.heap.size) 2 2 RDy6.out (by omega) (by omega) (by omega) (fun i hi => by match i, hi with | 0, _ => exact ⟨_, by rw [cell_of_row _ _ 0 _ _ _ Nq43_y6.out]; rfl⟩ | 1, _ => exact ⟨_, by rw [cell_of_row _ _ 1 _ _ _ Nq43_y6.out]; rfl⟩) (by have := HQq43_.out; omega)).mono ?_
        rintro e y7 ⟨z, rfl, hr, hb⟩
        have Zy7 : Hid (y6.heap.size ≤ y7.heap.size) := hb.size
        have Ky7 : Hid (Kept blk w y7) := Ky6.out.trans hb
        have SAy7 : Hid (y7.ownsRow lo 9 1 (.slice (some ⟨G3, 0, none⟩) (ks.length + 1) C3) (ks.length + 1) (texts (ks ++ [⟨#[113]⟩]))) := owns_kept492 SAy6.out hb (by omega)
        have SBy7 : Hid (y7.ownsRow lo 3 1 (.slice (some ⟨G2, 0, none⟩) ns.length c2) ns.length (intsV ns)) := owns_kept492 SBy6.out hb (by omega)
        have Nbry7 : Hid (y7.heap[w.heap.size]? = some (.cells #[.slice none 0 0, .slice none 0 0] 26 (0, 0))) := (hb.block _ (Array.getElem?_eq_some_iff.1 Nbry6.out).1 (by first | omega | (have := HQbr.out; omega))).trans Nbry6.out
        have Nbxy7 : Hid (y7.heap[X]? = some (.cells #[.slice (some ⟨G3, 0, none⟩) (ks.length + 1) C3, .slice (some ⟨G2, 0, none⟩) ns.length c2] 26 (0, 0))) := (hb.block _ (Array.getElem?_eq_some_iff.1 Nbxy6.out).1 (by first | omega | (have := HQbx.out; omega))).trans Nbxy6.out
        have RDy7 : Hid (RdAt y7 blk (q + 1 + 1)) := hr
        clear hb
        refine hK.out _ _ ?_ (fun hHeld => ?_)
        · exact trivial
        clear hK K
        try simp only [Act.put, List.setIfInBounds_toArray, List.set_cons_zero, List.set_cons_succ]
        refine wpAnyH_ready (rs := [5]) (by kernel_rfl) (by simp) ?_
        refine AllReadyH.cons rfl (fun K hK => ?_) AllReadyH.nil
        go_simp
        have NA : Hid ((y7.alloc (.cells #[.int .i64 z] 3)).heap[y7.heap.size]? = some (.cells #[.int .i64 z] 3 (0, 0))) := heap_alloc_last _ _
        obtain ⟨y8, hx⟩ : ∃ X, y7.alloc (.cells #[.int .i64 z] 3) = X := ⟨_, rfl⟩
        have hb : Below y7.heap.size y7 y8 := by rw [← hx]; exact (Below.refl _ _).alloc (Nat.le_refl _) _
        have Zy8 : Hid (y7.heap.size < y8.heap.size) := by show _ < _; rw [← hx]; simp
        have Nq45_y8 : Hid (y8.heap[y7.heap.size]? = some (.cells #[.int .i64 z] 3 (0, 0))) := by show _ = _; rw [← hx]; exact NA.out
        have Ky8 : Hid (Kept blk w y8) := Ky7.out.trans (Kept.of_below hb)
        have HQq45_ : Hid (w.heap.size ≤ y7.heap.size) := Ky7.out.size
        have SAy8 : Hid (y8.ownsRow lo 9 1 (.slice (some ⟨G3, 0, none⟩) (ks.length + 1) C3) (ks.length + 1) (texts (ks ++ [⟨#[113]⟩]))) := owns_below SAy7.out hb
        have SBy8 : Hid (y8.ownsRow lo 3 1 (.slice (some ⟨G2, 0, none⟩) ns.length c2) ns.length (intsV ns)) := owns_below SBy7.out hb
        have RDy8 : Hid (RdAt y8 blk (q + 1 + 1)) := RDy7.out.keep hb
        have Nbry8 : Hid (y8.heap[w.heap.size]? = some (.cells #[.slice none 0 0, .slice none 0 0] 26 (0, 0))) := (hb.block _ (Array.getElem?_eq_some_iff.1 Nbry7.out).1).trans Nbry7.out
        have Nbxy8 : Hid (y8.heap[X]? = some (.cells #[.slice (some ⟨G3, 0, none⟩) (ks.length + 1) C3, .slice (some ⟨G2, 0, none⟩) ns.length c2] 26 (0, 0))) := (hb.block _ (Array.getElem?_eq_some_iff.1 Nbxy7.out).1).trans Nbxy7.out
        rw [hx]
        clear hx NA hb
        refine hK.out _ _ ?_ (fun hHeld => ?_)
        · exact trivial
        clear hK K
        try simp only [Act.put, List.setIfInBounds_toArray, List.set_cons_zero, List.set_cons_succ]
        refine wpAnyH_ready (rs := [6]) (by kernel_rfl) (by simp) ?_
        refine AllReadyH.cons rfl (fun K hK => ?_) AllReadyH.nil
        have hloc : lo ≤ y8.heap.size := by have := (Array.getElem?_eq_some_iff.1 Nbxy8.out).1; omega
        refine step_append_own rfl (.tmp 41) (.tmp 45) 24 rfl lo 3 i4 (.int .i64 0) 1 8 Tryd.underlying24 hi4 hz4 hs4 hb4 rfl (by decide) (.slice (some ⟨G2, 0, none⟩) ns.length c2) ns.length (intsV ns) rfl SBy8.out ⟨y7.heap.size, 0, none⟩ 1 1 [.int .i64 z] rfl rfl (news_cells Nq45_y8.out) (one_int z) (by unfold maxLen; omega) (by omega) hloc ?_
        intro U4 y9 hown4 hgrow4 hnil4
        obtain ⟨G4, C4, rfl, -, -⟩ := World.ownsRow.form hown4 (Nat.succ_pos _)
        have SBy9 : Hid (y9.ownsRow lo 3 1 (.slice (some ⟨G4, 0, none⟩) (ns.length + 1) C4) (ns.length + 1) (intsV (ns ++ [z]))) := by rw [ints_long] at hown4; exact hown4
        have SAy9 : Hid (y9.ownsRow lo 9 1 (.slice (some ⟨G3, 0, none⟩) (ks.length + 1) C3) (ks.length + 1) (texts (ks ++ [⟨#[113]⟩]))) := owns_grown SAy8.out SBy8.out (by decide) hgrow4
        have hb : Below lo y8 y9 := below_of_grown hgrow4 (fun z hz => (World.ownsRow.lt SBy8.out z hz).1) hloc
        have Nbxy9 : Hid (y9.heap[X]? = some (.cells #[.slice (some ⟨G3, 0, none⟩) (ks.length + 1) C3, .slice (some ⟨G2, 0, none⟩) ns.length c2] 26 (0, 0))) := (hgrow4.block X (lt_of_block405 Nbxy8.out) (fun e => owns_ne478 SBy8.out Nbxy8.out (by decide) _ e.symm rfl)).trans Nbxy8.out
        have RDy9 : Hid (RdAt y9 blk (q + 1 + 1)) := RDy8.out.lo492 hb (by omega)
        have Ky9 : Hid (Kept blk w y9) := Ky8.out.lo492 hb (by omega)
        have Nbry9 : Hid (y9.heap[w.heap.size]? = some (.cells #[.slice none 0 0, .slice none 0 0] 26 (0, 0))) := (hb.block _ (by omega)).trans Nbry8.out
        have Zy9 : Hid (y8.heap.size ≤ y9.heap.size) := hb.size
        clear hb hloc hown4 hgrow4 hnil4
        refine hK.out _ _ ?_ (fun hHeld => ?_)
        · exact trivial
        clear hK K
        try simp only [Act.put, List.setIfInBounds_toArray, List.set_cons_zero, List.set_cons_succ]
        refine tk 7 47 (.pointer (some ⟨X, 1, none⟩)) ?_
        simp only [Act.put, List.setIfInBounds_toArray, List.set_cons_zero, List.set_cons_succ]
        refine wpAnyH_ready (rs := [8]) (by kernel_rfl) (by simp) ?_
        refine AllReadyH.cons rfl (fun K hK => ?_) AllReadyH.nil
        have q0 : y9.cell? ⟨X, 0, none⟩ = some (.slice (some ⟨G3, 0, none⟩) (ks.length + 1) C3) := by rw [cell_of_row _ _ 0 _ _ _ Nbxy9.out]; rfl
        have q1 : y9.cell? ⟨X, 1, none⟩ = some (.slice (some ⟨G2, 0, none⟩) ns.length c2) := by rw [cell_of_row _ _ 1 _ _ _ Nbxy9.out]; rfl
        have q2 : y9.frozen? ⟨X, 1, none⟩ = false := frozen_of_row _ _ 1 _ _ Nbxy9.out
        go_simp
        obtain ⟨y10, hx⟩ : ∃ Y, y9.setCell ⟨X, 1, none⟩ (.slice (some ⟨G4, 0, none⟩) (ns.length + 1) C4) = Y := ⟨_, rfl⟩
        have hb : Below lo y9 y10 := by rw [← hx]; exact (Below.refl _ _).setCell (p := ⟨X, 1, none⟩) hX1 _
        have Nbxy10 : Hid (y10.heap[X]? = some (.cells #[.slice (some ⟨G3, 0, none⟩) (ks.length + 1) C3, .slice (some ⟨G4, 0, none⟩) (ns.length + 1) C4] 26 (0, 0))) := by show _ = _; rw [← hx]; exact box1_492 Nbxy9.out _
        have SAy10 : Hid (y10.ownsRow lo 9 1 (.slice (some ⟨G3, 0, none⟩) (ks.length + 1) C3) (ks.length + 1) (texts (ks ++ [⟨#[113]⟩]))) := by show World.ownsRow _ _ _ _ _ _ _; rw [← hx]; exact owns_cell478 SAy9.out (owns_ne478 SAy9.out Nbxy9.out (by decide)) 1 _
        have SBy10 : Hid (y10.ownsRow lo 3 1 (.slice (some ⟨G4, 0, none⟩) (ns.length + 1) C4) (ns.length + 1) (intsV (ns ++ [z]))) := by show World.ownsRow _ _ _ _ _ _ _; rw [← hx]; exact owns_cell478 SBy9.out (owns_ne478 SBy9.out Nbxy9.out (by decide)) 1 _
        have RDy10 : Hid (RdAt y10 blk (q + 1 + 1)) := RDy9.out.lo492 hb (by omega)
        have Ky10 : Hid (Kept blk w y10) := Ky9.out.lo492 hb (by omega)
        have Nbry10 : Hid (y10.heap[w.heap.size]? = some (.cells #[.slice none 0 0, .slice none 0 0] 26 (0, 0))) := (hb.block _ (by omega)).trans Nbry9.out
        have Zy10 : Hid (y9.heap.size ≤ y10.heap.size) := hb.size
        rw [hx]
        clear hx hb q0 q1 q2
        refine hK.out _ _ ?_ (fun hHeld => ?_)
        · exact trivial
        clear hK K
        try simp only [Act.put, List.setIfInBounds_toArray, List.set_cons_zero, List.set_cons_succ]
        refine wpAnyH_done (by kernel_rfl) ?_ _
        have y0 : y10.cell? ⟨X, 0, none⟩ = some (.slice (some ⟨G3, 0, none⟩) (ks.length + 1) C3) := by rw [cell_of_row _ _ 0 _ _ _ Nbxy10.out]; rfl
        have y1 : y10.cell? ⟨X, 1, none⟩ = some (.slice (some ⟨G4, 0, none⟩) (ns.length + 1) C4) := by rw [cell_of_row _ _ 1 _ _ _ Nbxy10.out]; rfl
        obtain ⟨V6, hV6⟩ : ∃ Y, y10.setRow w.heap.size #[.slice (some ⟨G3, 0, none⟩) (ks.length + 1) C3, .slice (some ⟨G4, 0, none⟩) (ns.length + 1) C4] = Y := ⟨_, rfl⟩
        have NxV : Hid (V6.heap[w.heap.size]? = some (.cells #[.slice (some ⟨G3, 0, none⟩) (ks.length + 1) C3, .slice (some ⟨G4, 0, none⟩) (ns.length + 1) C4] 26 (0, 0))) := (by show _ = _; rw [← hV6]; exact setRow_heap _ _ _ _ _ _ Nbry10.out)
        have RV6 : Hid (RdAt V6 blk (q + 1 + 1)) := (by show RdAt _ _ _; rw [← hV6]; exact RDy10.out.setRow (by omega) _)
        have KV6 : Hid (Kept blk w V6) := (by show Kept _ _ _; rw [← hV6]; exact Ky10.out.setRow (Nat.le_refl _) _)
        have OV6 : Hid (RingOwn lo V6.heap.size V6 (.agg #[.slice (some ⟨G3, 0, none⟩) (ks.length + 1) C3, .slice (some ⟨G4, 0, none⟩) (ns.length + 1) C4]) ((ks ++ [⟨#[113]⟩]), (ns ++ [z]))) := (by have h8 : RingOwn lo y10.heap.size y10 (.agg #[.slice (some ⟨G3, 0, none⟩) (ks.length + 1) C3, .slice (some ⟨G4, 0, none⟩) (ns.length + 1) C4]) ((ks ++ [⟨#[113]⟩]), (ns ++ [z])) := (ring_of_rows (textsRow_of_owns SAy10.out (by simp) (long_fit492 HFIT.out (by unfold maxLen; decide))) (intsRow_of_owns SBy10.out (by simp))); have h9 := h8.setRowR Nbry10.out #[.slice (some ⟨G3, 0, none⟩) (ks.length + 1) C3, .slice (some ⟨G4, 0, none⟩) (ns.length + 1) C4]; have hs : V6.heap.size = y10.heap.size := (by rw [← hV6]; simp); rw [hV6, ← hs] at h9; exact h9)
        have HV6 : Hid (y10.setRow w.heap.size #[.slice (some ⟨G3, 0, none⟩) (ks.length + 1) C3, .slice (some ⟨G4, 0, none⟩) (ns.length + 1) C4] = V6) := hV6
        have v0 : V6.cell? ⟨w.heap.size, 0, none⟩ = some (.slice (some ⟨G3, 0, none⟩) (ks.length + 1) C3) := (by rw [cell_of_row _ _ 0 _ _ _ NxV.out]; rfl)
        have v1 : V6.cell? ⟨w.heap.size, 1, none⟩ = some (.slice (some ⟨G4, 0, none⟩) (ns.length + 1) C4) := (by rw [cell_of_row _ _ 1 _ _ _ NxV.out]; rfl)
        clear hV6
        go_wp2_with (refine wpList_store_row rfl 26 _ _ rfl w.heap.size #[.slice (some ⟨G3, 0, none⟩) (ks.length + 1) C3, .slice (some ⟨G4, 0, none⟩) (ns.length + 1) C4] rfl rfl 26 _ Nbry10.out HSZ.out rfl (by simp [Value.oneCell']) ?_; rw [HV6.out])
        refine bodyPost_ret (v := .agg #[.slice (some ⟨G3, 0, none⟩) (ks.length + 1) C3, .slice (some ⟨G4, 0, none⟩) (ns.length + 1) C4]) (by simp [results, Tryd.results18, go_sem, v0, v1]) rfl ⟨((ks ++ [⟨#[113]⟩]), (ns ++ [z])), _, _, _, _, _, _, rfl, OV6.out.weak480 (by omega) (Nat.le_refl _), ⟨_, RV6.out, by omega⟩, KV6.out⟩
      · skip
        go_simp
        refine (one492_any _ blk (q + 1) (y0.heap.size) 2 2 RDy6.out (by omega) (by omega) (by omega) (fun i hi => by match i, hi with | 0, _ => exact ⟨_, by rw [cell_of_row _ _ 0 _ _ _ Nq43_y6.out]; rfl⟩ | 1, _ => exact ⟨_, by rw [cell_of_row _ _ 1 _ _ _ Nq43_y6.out]; rfl⟩) (by have := HQq43_.out; omega)).mono ?_
        rintro e y11 ⟨z, rfl, hr, hb⟩
        have Zy11 : Hid (y6.heap.size ≤ y11.heap.size) := hb.size
        have Ky11 : Hid (Kept blk w y11) := Ky6.out.trans hb
        have SAy11 : Hid (y11.ownsRow lo 9 1 (.slice (some ⟨G3, 0, none⟩) (ks.length + 1) C3) (ks.length + 1) (texts (ks ++ [⟨#[113]⟩]))) := owns_kept492 SAy6.out hb (by omega)
        have SBy11 : Hid (y11.ownsRow lo 3 1 (.slice (some ⟨G2, 0, none⟩) ns.length c2) ns.length (intsV ns)) := owns_kept492 SBy6.out hb (by omega)
        have Nbry11 : Hid (y11.heap[w.heap.size]? = some (.cells #[.slice none 0 0, .slice none 0 0] 26 (0, 0))) := (hb.block _ (Array.getElem?_eq_some_iff.1 Nbry6.out).1 (by first | omega | (have := HQbr.out; omega))).trans Nbry6.out
        have Nbxy11 : Hid (y11.heap[X]? = some (.cells #[.slice (some ⟨G3, 0, none⟩) (ks.length + 1) C3, .slice (some ⟨G2, 0, none⟩) ns.length c2] 26 (0, 0))) := (hb.block _ (Array.getElem?_eq_some_iff.1 Nbxy6.out).1 (by first | omega | (have := HQbx.out; omega))).trans Nbxy6.out
        have RDy11 : Hid (RdAt y11 blk (q + 1 + 1)) := hr
        clear hb
        refine hK.out _ _ ?_ (fun hHeld => ?_)
        · exact trivial
        clear hK K
        try simp only [Act.put, List.setIfInBounds_toArray, List.set_cons_zero, List.set_cons_succ]
        refine wpAnyH_ready (rs := [1, 5]) (by kernel_rfl) (by simp) ?_
        refine AllReadyH.cons rfl (fun K hK => ?_) (AllReadyH.cons rfl (fun K hK => ?_) AllReadyH.nil)
        · skip
          have q1 : y11.cell? ⟨X, 1, none⟩ = some (.slice (some ⟨G2, 0, none⟩) ns.length c2) := by rw [cell_of_row _ _ 1 _ _ _ Nbxy11.out]; rfl
          go_simp
          refine hK.out _ _ ?_ (fun hHeld => ?_)
          · exact trivial
          clear hK K
          try simp only [Act.put, List.setIfInBounds_toArray, List.set_cons_zero, List.set_cons_succ]
          refine wpAnyH_ready (rs := [5]) (by kernel_rfl) (by simp) ?_
          refine AllReadyH.cons rfl (fun K hK => ?_) AllReadyH.nil
          go_simp
          have NA : Hid ((y11.alloc (.cells #[.int .i64 z] 3)).heap[y11.heap.size]? = some (.cells #[.int .i64 z] 3 (0, 0))) := heap_alloc_last _ _
          obtain ⟨y12, hx⟩ : ∃ X, y11.alloc (.cells #[.int .i64 z] 3) = X := ⟨_, rfl⟩
          have hb : Below y11.heap.size y11 y12 := by rw [← hx]; exact (Below.refl _ _).alloc (Nat.le_refl _) _
          have Zy12 : Hid (y11.heap.size < y12.heap.size) := by show _ < _; rw [← hx]; simp
          have Nq45_y12 : Hid (y12.heap[y11.heap.size]? = some (.cells #[.int .i64 z] 3 (0, 0))) := by show _ = _; rw [← hx]; exact NA.out
          have Ky12 : Hid (Kept blk w y12) := Ky11.out.trans (Kept.of_below hb)
          have HQq45_ : Hid (w.heap.size ≤ y11.heap.size) := Ky11.out.size
          have SAy12 : Hid (y12.ownsRow lo 9 1 (.slice (some ⟨G3, 0, none⟩) (ks.length + 1) C3) (ks.length + 1) (texts (ks ++ [⟨#[113]⟩]))) := owns_below SAy11.out hb
          have SBy12 : Hid (y12.ownsRow lo 3 1 (.slice (some ⟨G2, 0, none⟩) ns.length c2) ns.length (intsV ns)) := owns_below SBy11.out hb
          have RDy12 : Hid (RdAt y12 blk (q + 1 + 1)) := RDy11.out.keep hb
          have Nbry12 : Hid (y12.heap[w.heap.size]? = some (.cells #[.slice none 0 0, .slice none 0 0] 26 (0, 0))) := (hb.block _ (Array.getElem?_eq_some_iff.1 Nbry11.out).1).trans Nbry11.out
          have Nbxy12 : Hid (y12.heap[X]? = some (.cells #[.slice (some ⟨G3, 0, none⟩) (ks.length + 1) C3, .slice (some ⟨G2, 0, none⟩) ns.length c2] 26 (0, 0))) := (hb.block _ (Array.getElem?_eq_some_iff.1 Nbxy11.out).1).trans Nbxy11.out
          rw [hx]
          clear hx NA hb
          refine hK.out _ _ ?_ (fun hHeld => ?_)
          · exact trivial
          clear hK K
          try simp only [Act.put, List.setIfInBounds_toArray, List.set_cons_zero, List.set_cons_succ]
          refine wpAnyH_ready (rs := [6]) (by kernel_rfl) (by simp) ?_
          refine AllReadyH.cons rfl (fun K hK => ?_) AllReadyH.nil
          have hloc : lo ≤ y12.heap.size := by have := (Array.getElem?_eq_some_iff.1 Nbxy12.out).1; omega
          refine step_append_own rfl (.tmp 41) (.tmp 45) 24 rfl lo 3 i4 (.int .i64 0) 1 8 Tryd.underlying24 hi4 hz4 hs4 hb4 rfl (by decide) (.slice (some ⟨G2, 0, none⟩) ns.length c2) ns.length (intsV ns) rfl SBy12.out ⟨y11.heap.size, 0, none⟩ 1 1 [.int .i64 z] rfl rfl (news_cells Nq45_y12.out) (one_int z) (by unfold maxLen; omega) (by omega) hloc ?_
          intro U4 y13 hown4 hgrow4 hnil4
          obtain ⟨G4, C4, rfl, -, -⟩ := World.ownsRow.form hown4 (Nat.succ_pos _)
          have SBy13 : Hid (y13.ownsRow lo 3 1 (.slice (some ⟨G4, 0, none⟩) (ns.length + 1) C4) (ns.length + 1) (intsV (ns ++ [z]))) := by rw [ints_long] at hown4; exact hown4
          have SAy13 : Hid (y13.ownsRow lo 9 1 (.slice (some ⟨G3, 0, none⟩) (ks.length + 1) C3) (ks.length + 1) (texts (ks ++ [⟨#[113]⟩]))) := owns_grown SAy12.out SBy12.out (by decide) hgrow4
          have hb : Below lo y12 y13 := below_of_grown hgrow4 (fun z hz => (World.ownsRow.lt SBy12.out z hz).1) hloc
          have Nbxy13 : Hid (y13.heap[X]? = some (.cells #[.slice (some ⟨G3, 0, none⟩) (ks.length + 1) C3, .slice (some ⟨G2, 0, none⟩) ns.length c2] 26 (0, 0))) := (hgrow4.block X (lt_of_block405 Nbxy12.out) (fun e => owns_ne478 SBy12.out Nbxy12.out (by decide) _ e.symm rfl)).trans Nbxy12.out
          have RDy13 : Hid (RdAt y13 blk (q + 1 + 1)) := RDy12.out.lo492 hb (by omega)
          have Ky13 : Hid (Kept blk w y13) := Ky12.out.lo492 hb (by omega)
          have Nbry13 : Hid (y13.heap[w.heap.size]? = some (.cells #[.slice none 0 0, .slice none 0 0] 26 (0, 0))) := (hb.block _ (by omega)).trans Nbry12.out
          have Zy13 : Hid (y12.heap.size ≤ y13.heap.size) := hb.size
          clear hb hloc hown4 hgrow4 hnil4
          refine hK.out _ _ ?_ (fun hHeld => ?_)
          · exact trivial
          clear hK K
          try simp only [Act.put, List.setIfInBounds_toArray, List.set_cons_zero, List.set_cons_succ]
          refine tk 7 47 (.pointer (some ⟨X, 1, none⟩)) ?_
          simp only [Act.put, List.setIfInBounds_toArray, List.set_cons_zero, List.set_cons_succ]
          refine wpAnyH_ready (rs := [8]) (by kernel_rfl) (by simp) ?_
          refine AllReadyH.cons rfl (fun K hK => ?_) AllReadyH.nil
          have q0 : y13.cell? ⟨X, 0, none⟩ = some (.slice (some ⟨G3, 0, none⟩) (ks.length + 1) C3) := by rw [cell_of_row _ _ 0 _ _ _ Nbxy13.out]; rfl
          have q1 : y13.cell? ⟨X, 1, none⟩ = some (.slice (some ⟨G2, 0, none⟩) ns.length c2) := by rw [cell_of_row _ _ 1 _ _ _ Nbxy13.out]; rfl
          have q2 : y13.frozen? ⟨X, 1, none⟩ = false := frozen_of_row _ _ 1 _ _ Nbxy13.out
          go_simp
          obtain ⟨y14, hx⟩ : ∃ Y, y13.setCell ⟨X, 1, none⟩ (.slice (some ⟨G4, 0, none⟩) (ns.length + 1) C4) = Y := ⟨_, rfl⟩
          have hb : Below lo y13 y14 := by rw [← hx]; exact (Below.refl _ _).setCell (p := ⟨X, 1, none⟩) hX1 _
          have Nbxy14 : Hid (y14.heap[X]? = some (.cells #[.slice (some ⟨G3, 0, none⟩) (ks.length + 1) C3, .slice (some ⟨G4, 0, none⟩) (ns.length + 1) C4] 26 (0, 0))) := by show _ = _; rw [← hx]; exact box1_492 Nbxy13.out _
          have SAy14 : Hid (y14.ownsRow lo 9 1 (.slice (some ⟨G3, 0, none⟩) (ks.length + 1) C3) (ks.length + 1) (texts (ks ++ [⟨#[113]⟩]))) := by show World.ownsRow _ _ _ _ _ _ _; rw [← hx]; exact owns_cell478 SAy13.out (owns_ne478 SAy13.out Nbxy13.out (by decide)) 1 _
          have SBy14 : Hid (y14.ownsRow lo 3 1 (.slice (some ⟨G4, 0, none⟩) (ns.length + 1) C4) (ns.length + 1) (intsV (ns ++ [z]))) := by show World.ownsRow _ _ _ _ _ _ _; rw [← hx]; exact owns_cell478 SBy13.out (owns_ne478 SBy13.out Nbxy13.out (by decide)) 1 _
          have RDy14 : Hid (RdAt y14 blk (q + 1 + 1)) := RDy13.out.lo492 hb (by omega)
          have Ky14 : Hid (Kept blk w y14) := Ky13.out.lo492 hb (by omega)
          have Nbry14 : Hid (y14.heap[w.heap.size]? = some (.cells #[.slice none 0 0, .slice none 0 0] 26 (0, 0))) := (hb.block _ (by omega)).trans Nbry13.out
          have Zy14 : Hid (y13.heap.size ≤ y14.heap.size) := hb.size
          rw [hx]
          clear hx hb q0 q1 q2
          refine hK.out _ _ ?_ (fun hHeld => ?_)
          · exact trivial
          clear hK K
          try simp only [Act.put, List.setIfInBounds_toArray, List.set_cons_zero, List.set_cons_succ]
          refine wpAnyH_done (by kernel_rfl) ?_ _
          have y0 : y14.cell? ⟨X, 0, none⟩ = some (.slice (some ⟨G3, 0, none⟩) (ks.length + 1) C3) := by rw [cell_of_row _ _ 0 _ _ _ Nbxy14.out]; rfl
          have y1 : y14.cell? ⟨X, 1, none⟩ = some (.slice (some ⟨G4, 0, none⟩) (ns.length + 1) C4) := by rw [cell_of_row _ _ 1 _ _ _ Nbxy14.out]; rfl
          obtain ⟨V6, hV6⟩ : ∃ Y, y14.setRow w.heap.size #[.slice (some ⟨G3, 0, none⟩) (ks.length + 1) C3, .slice (some ⟨G4, 0, none⟩) (ns.length + 1) C4] = Y := ⟨_, rfl⟩
          have NxV : Hid (V6.heap[w.heap.size]? = some (.cells #[.slice (some ⟨G3, 0, none⟩) (ks.length + 1) C3, .slice (some ⟨G4, 0, none⟩) (ns.length + 1) C4] 26 (0, 0))) := (by show _ = _; rw [← hV6]; exact setRow_heap _ _ _ _ _ _ Nbry14.out)
          have RV6 : Hid (RdAt V6 blk (q + 1 + 1)) := (by show RdAt _ _ _; rw [← hV6]; exact RDy14.out.setRow (by omega) _)
          have KV6 : Hid (Kept blk w V6) := (by show Kept _ _ _; rw [← hV6]; exact Ky14.out.setRow (Nat.le_refl _) _)
          have OV6 : Hid (RingOwn lo V6.heap.size V6 (.agg #[.slice (some ⟨G3, 0, none⟩) (ks.length + 1) C3, .slice (some ⟨G4, 0, none⟩) (ns.length + 1) C4]) ((ks ++ [⟨#[113]⟩]), (ns ++ [z]))) := (by have h8 : RingOwn lo y14.heap.size y14 (.agg #[.slice (some ⟨G3, 0, none⟩) (ks.length + 1) C3, .slice (some ⟨G4, 0, none⟩) (ns.length + 1) C4]) ((ks ++ [⟨#[113]⟩]), (ns ++ [z])) := (ring_of_rows (textsRow_of_owns SAy14.out (by simp) (long_fit492 HFIT.out (by unfold maxLen; decide))) (intsRow_of_owns SBy14.out (by simp))); have h9 := h8.setRowR Nbry14.out #[.slice (some ⟨G3, 0, none⟩) (ks.length + 1) C3, .slice (some ⟨G4, 0, none⟩) (ns.length + 1) C4]; have hs : V6.heap.size = y14.heap.size := (by rw [← hV6]; simp); rw [hV6, ← hs] at h9; exact h9)
          have HV6 : Hid (y14.setRow w.heap.size #[.slice (some ⟨G3, 0, none⟩) (ks.length + 1) C3, .slice (some ⟨G4, 0, none⟩) (ns.length + 1) C4] = V6) := hV6
          have v0 : V6.cell? ⟨w.heap.size, 0, none⟩ = some (.slice (some ⟨G3, 0, none⟩) (ks.length + 1) C3) := (by rw [cell_of_row _ _ 0 _ _ _ NxV.out]; rfl)
          have v1 : V6.cell? ⟨w.heap.size, 1, none⟩ = some (.slice (some ⟨G4, 0, none⟩) (ns.length + 1) C4) := (by rw [cell_of_row _ _ 1 _ _ _ NxV.out]; rfl)
          clear hV6
          go_wp2_with (refine wpList_store_row rfl 26 _ _ rfl w.heap.size #[.slice (some ⟨G3, 0, none⟩) (ks.length + 1) C3, .slice (some ⟨G4, 0, none⟩) (ns.length + 1) C4] rfl rfl 26 _ Nbry14.out HSZ.out rfl (by simp [Value.oneCell']) ?_; rw [HV6.out])
          refine bodyPost_ret (v := .agg #[.slice (some ⟨G3, 0, none⟩) (ks.length + 1) C3, .slice (some ⟨G4, 0, none⟩) (ns.length + 1) C4]) (by simp [results, Tryd.results18, go_sem, v0, v1]) rfl ⟨((ks ++ [⟨#[113]⟩]), (ns ++ [z])), _, _, _, _, _, _, rfl, OV6.out.weak480 (by omega) (Nat.le_refl _), ⟨_, RV6.out, by omega⟩, KV6.out⟩
        · skip
          go_simp
          have NA : Hid ((y11.alloc (.cells #[.int .i64 z] 3)).heap[y11.heap.size]? = some (.cells #[.int .i64 z] 3 (0, 0))) := heap_alloc_last _ _
          obtain ⟨y15, hx⟩ : ∃ X, y11.alloc (.cells #[.int .i64 z] 3) = X := ⟨_, rfl⟩
          have hb : Below y11.heap.size y11 y15 := by rw [← hx]; exact (Below.refl _ _).alloc (Nat.le_refl _) _
          have Zy15 : Hid (y11.heap.size < y15.heap.size) := by show _ < _; rw [← hx]; simp
          have Nq45_y15 : Hid (y15.heap[y11.heap.size]? = some (.cells #[.int .i64 z] 3 (0, 0))) := by show _ = _; rw [← hx]; exact NA.out
          have Ky15 : Hid (Kept blk w y15) := Ky11.out.trans (Kept.of_below hb)
          have HQq45_ : Hid (w.heap.size ≤ y11.heap.size) := Ky11.out.size
          have SAy15 : Hid (y15.ownsRow lo 9 1 (.slice (some ⟨G3, 0, none⟩) (ks.length + 1) C3) (ks.length + 1) (texts (ks ++ [⟨#[113]⟩]))) := owns_below SAy11.out hb
          have SBy15 : Hid (y15.ownsRow lo 3 1 (.slice (some ⟨G2, 0, none⟩) ns.length c2) ns.length (intsV ns)) := owns_below SBy11.out hb
          have RDy15 : Hid (RdAt y15 blk (q + 1 + 1)) := RDy11.out.keep hb
          have Nbry15 : Hid (y15.heap[w.heap.size]? = some (.cells #[.slice none 0 0, .slice none 0 0] 26 (0, 0))) := (hb.block _ (Array.getElem?_eq_some_iff.1 Nbry11.out).1).trans Nbry11.out
          have Nbxy15 : Hid (y15.heap[X]? = some (.cells #[.slice (some ⟨G3, 0, none⟩) (ks.length + 1) C3, .slice (some ⟨G2, 0, none⟩) ns.length c2] 26 (0, 0))) := (hb.block _ (Array.getElem?_eq_some_iff.1 Nbxy11.out).1).trans Nbxy11.out
          rw [hx]
          clear hx NA hb
          refine hK.out _ _ ?_ (fun hHeld => ?_)
          · exact trivial
          clear hK K
          try simp only [Act.put, List.setIfInBounds_toArray, List.set_cons_zero, List.set_cons_succ]
          refine wpAnyH_ready (rs := [1]) (by kernel_rfl) (by simp) ?_
          refine AllReadyH.cons rfl (fun K hK => ?_) AllReadyH.nil
          have q1 : y15.cell? ⟨X, 1, none⟩ = some (.slice (some ⟨G2, 0, none⟩) ns.length c2) := by rw [cell_of_row _ _ 1 _ _ _ Nbxy15.out]; rfl
          go_simp
          refine hK.out _ _ ?_ (fun hHeld => ?_)
          · exact trivial
          clear hK K
          try simp only [Act.put, List.setIfInBounds_toArray, List.set_cons_zero, List.set_cons_succ]
          refine wpAnyH_ready (rs := [6]) (by kernel_rfl) (by simp) ?_
          refine AllReadyH.cons rfl (fun K hK => ?_) AllReadyH.nil
          have hloc : lo ≤ y15.heap.size := by have := (Array.getElem?_eq_some_iff.1 Nbxy15.out).1; omega
          refine step_append_own rfl (.tmp 41) (.tmp 45) 24 rfl lo 3 i4 (.int .i64 0) 1 8 Tryd.underlying24 hi4 hz4 hs4 hb4 rfl (by decide) (.slice (some ⟨G2, 0, none⟩) ns.length c2) ns.length (intsV ns) rfl SBy15.out ⟨y11.heap.size, 0, none⟩ 1 1 [.int .i64 z] rfl rfl (news_cells Nq45_y15.out) (one_int z) (by unfold maxLen; omega) (by omega) hloc ?_
          intro U4 y16 hown4 hgrow4 hnil4
          obtain ⟨G4, C4, rfl, -, -⟩ := World.ownsRow.form hown4 (Nat.succ_pos _)
          have SBy16 : Hid (y16.ownsRow lo 3 1 (.slice (some ⟨G4, 0, none⟩) (ns.length + 1) C4) (ns.length + 1) (intsV (ns ++ [z]))) := by rw [ints_long] at hown4; exact hown4
          have SAy16 : Hid (y16.ownsRow lo 9 1 (.slice (some ⟨G3, 0, none⟩) (ks.length + 1) C3) (ks.length + 1) (texts (ks ++ [⟨#[113]⟩]))) := owns_grown SAy15.out SBy15.out (by decide) hgrow4
          have hb : Below lo y15 y16 := below_of_grown hgrow4 (fun z hz => (World.ownsRow.lt SBy15.out z hz).1) hloc
          have Nbxy16 : Hid (y16.heap[X]? = some (.cells #[.slice (some ⟨G3, 0, none⟩) (ks.length + 1) C3, .slice (some ⟨G2, 0, none⟩) ns.length c2] 26 (0, 0))) := (hgrow4.block X (lt_of_block405 Nbxy15.out) (fun e => owns_ne478 SBy15.out Nbxy15.out (by decide) _ e.symm rfl)).trans Nbxy15.out
          have RDy16 : Hid (RdAt y16 blk (q + 1 + 1)) := RDy15.out.lo492 hb (by omega)
          have Ky16 : Hid (Kept blk w y16) := Ky15.out.lo492 hb (by omega)
          have Nbry16 : Hid (y16.heap[w.heap.size]? = some (.cells #[.slice none 0 0, .slice none 0 0] 26 (0, 0))) := (hb.block _ (by omega)).trans Nbry15.out
          have Zy16 : Hid (y15.heap.size ≤ y16.heap.size) := hb.size
          clear hb hloc hown4 hgrow4 hnil4
          refine hK.out _ _ ?_ (fun hHeld => ?_)
          · exact trivial
          clear hK K
          try simp only [Act.put, List.setIfInBounds_toArray, List.set_cons_zero, List.set_cons_succ]
          refine tk 7 47 (.pointer (some ⟨X, 1, none⟩)) ?_
          simp only [Act.put, List.setIfInBounds_toArray, List.set_cons_zero, List.set_cons_succ]
          refine wpAnyH_ready (rs := [8]) (by kernel_rfl) (by simp) ?_
          refine AllReadyH.cons rfl (fun K hK => ?_) AllReadyH.nil
          have q0 : y16.cell? ⟨X, 0, none⟩ = some (.slice (some ⟨G3, 0, none⟩) (ks.length + 1) C3) := by rw [cell_of_row _ _ 0 _ _ _ Nbxy16.out]; rfl
          have q1 : y16.cell? ⟨X, 1, none⟩ = some (.slice (some ⟨G2, 0, none⟩) ns.length c2) := by rw [cell_of_row _ _ 1 _ _ _ Nbxy16.out]; rfl
          have q2 : y16.frozen? ⟨X, 1, none⟩ = false := frozen_of_row _ _ 1 _ _ Nbxy16.out
          go_simp
          obtain ⟨y17, hx⟩ : ∃ Y, y16.setCell ⟨X, 1, none⟩ (.slice (some ⟨G4, 0, none⟩) (ns.length + 1) C4) = Y := ⟨_, rfl⟩
          have hb : Below lo y16 y17 := by rw [← hx]; exact (Below.refl _ _).setCell (p := ⟨X, 1, none⟩) hX1 _
          have Nbxy17 : Hid (y17.heap[X]? = some (.cells #[.slice (some ⟨G3, 0, none⟩) (ks.length + 1) C3, .slice (some ⟨G4, 0, none⟩) (ns.length + 1) C4] 26 (0, 0))) := by show _ = _; rw [← hx]; exact box1_492 Nbxy16.out _
          have SAy17 : Hid (y17.ownsRow lo 9 1 (.slice (some ⟨G3, 0, none⟩) (ks.length + 1) C3) (ks.length + 1) (texts (ks ++ [⟨#[113]⟩]))) := by show World.ownsRow _ _ _ _ _ _ _; rw [← hx]; exact owns_cell478 SAy16.out (owns_ne478 SAy16.out Nbxy16.out (by decide)) 1 _
          have SBy17 : Hid (y17.ownsRow lo 3 1 (.slice (some ⟨G4, 0, none⟩) (ns.length + 1) C4) (ns.length + 1) (intsV (ns ++ [z]))) := by show World.ownsRow _ _ _ _ _ _ _; rw [← hx]; exact owns_cell478 SBy16.out (owns_ne478 SBy16.out Nbxy16.out (by decide)) 1 _
          have RDy17 : Hid (RdAt y17 blk (q + 1 + 1)) := RDy16.out.lo492 hb (by omega)
          have Ky17 : Hid (Kept blk w y17) := Ky16.out.lo492 hb (by omega)
          have Nbry17 : Hid (y17.heap[w.heap.size]? = some (.cells #[.slice none 0 0, .slice none 0 0] 26 (0, 0))) := (hb.block _ (by omega)).trans Nbry16.out
          have Zy17 : Hid (y16.heap.size ≤ y17.heap.size) := hb.size
          rw [hx]
          clear hx hb q0 q1 q2
          refine hK.out _ _ ?_ (fun hHeld => ?_)
          · exact trivial
          clear hK K
          try simp only [Act.put, List.setIfInBounds_toArray, List.set_cons_zero, List.set_cons_succ]
          refine wpAnyH_done (by kernel_rfl) ?_ _
          have y0 : y17.cell? ⟨X, 0, none⟩ = some (.slice (some ⟨G3, 0, none⟩) (ks.length + 1) C3) := by rw [cell_of_row _ _ 0 _ _ _ Nbxy17.out]; rfl
          have y1 : y17.cell? ⟨X, 1, none⟩ = some (.slice (some ⟨G4, 0, none⟩) (ns.length + 1) C4) := by rw [cell_of_row _ _ 1 _ _ _ Nbxy17.out]; rfl
          obtain ⟨V6, hV6⟩ : ∃ Y, y17.setRow w.heap.size #[.slice (some ⟨G3, 0, none⟩) (ks.length + 1) C3, .slice (some ⟨G4, 0, none⟩) (ns.length + 1) C4] = Y := ⟨_, rfl⟩
          have NxV : Hid (V6.heap[w.heap.size]? = some (.cells #[.slice (some ⟨G3, 0, none⟩) (ks.length + 1) C3, .slice (some ⟨G4, 0, none⟩) (ns.length + 1) C4] 26 (0, 0))) := (by show _ = _; rw [← hV6]; exact setRow_heap _ _ _ _ _ _ Nbry17.out)
          have RV6 : Hid (RdAt V6 blk (q + 1 + 1)) := (by show RdAt _ _ _; rw [← hV6]; exact RDy17.out.setRow (by omega) _)
          have KV6 : Hid (Kept blk w V6) := (by show Kept _ _ _; rw [← hV6]; exact Ky17.out.setRow (Nat.le_refl _) _)
          have OV6 : Hid (RingOwn lo V6.heap.size V6 (.agg #[.slice (some ⟨G3, 0, none⟩) (ks.length + 1) C3, .slice (some ⟨G4, 0, none⟩) (ns.length + 1) C4]) ((ks ++ [⟨#[113]⟩]), (ns ++ [z]))) := (by have h8 : RingOwn lo y17.heap.size y17 (.agg #[.slice (some ⟨G3, 0, none⟩) (ks.length + 1) C3, .slice (some ⟨G4, 0, none⟩) (ns.length + 1) C4]) ((ks ++ [⟨#[113]⟩]), (ns ++ [z])) := (ring_of_rows (textsRow_of_owns SAy17.out (by simp) (long_fit492 HFIT.out (by unfold maxLen; decide))) (intsRow_of_owns SBy17.out (by simp))); have h9 := h8.setRowR Nbry17.out #[.slice (some ⟨G3, 0, none⟩) (ks.length + 1) C3, .slice (some ⟨G4, 0, none⟩) (ns.length + 1) C4]; have hs : V6.heap.size = y17.heap.size := (by rw [← hV6]; simp); rw [hV6, ← hs] at h9; exact h9)
          have HV6 : Hid (y17.setRow w.heap.size #[.slice (some ⟨G3, 0, none⟩) (ks.length + 1) C3, .slice (some ⟨G4, 0, none⟩) (ns.length + 1) C4] = V6) := hV6
          have v0 : V6.cell? ⟨w.heap.size, 0, none⟩ = some (.slice (some ⟨G3, 0, none⟩) (ks.length + 1) C3) := (by rw [cell_of_row _ _ 0 _ _ _ NxV.out]; rfl)
          have v1 : V6.cell? ⟨w.heap.size, 1, none⟩ = some (.slice (some ⟨G4, 0, none⟩) (ns.length + 1) C4) := (by rw [cell_of_row _ _ 1 _ _ _ NxV.out]; rfl)
          clear hV6
          go_wp2_with (refine wpList_store_row rfl 26 _ _ rfl w.heap.size #[.slice (some ⟨G3, 0, none⟩) (ks.length + 1) C3, .slice (some ⟨G4, 0, none⟩) (ns.length + 1) C4] rfl rfl 26 _ Nbry17.out HSZ.out rfl (by simp [Value.oneCell']) ?_; rw [HV6.out])
          refine bodyPost_ret (v := .agg #[.slice (some ⟨G3, 0, none⟩) (ks.length + 1) C3, .slice (some ⟨G4, 0, none⟩) (ns.length + 1) C4]) (by simp [results, Tryd.results18, go_sem, v0, v1]) rfl ⟨((ks ++ [⟨#[113]⟩]), (ns ++ [z])), _, _, _, _, _, _, rfl, OV6.out.weak480 (by omega) (Nat.le_refl _), ⟨_, RV6.out, by omega⟩, KV6.out⟩
  have h3i : (v == 3) = false := by simp [h3]
  have x0 : w4.cell? ⟨X, 0, none⟩ = some (.slice (some ⟨G1, 0, none⟩) ks.length c1) := by rw [cell_of_row _ _ 0 _ _ _ Nbxw4.out]; rfl
  have x1 : w4.cell? ⟨X, 1, none⟩ = some (.slice (some ⟨G2, 0, none⟩) ns.length c2) := by rw [cell_of_row _ _ 1 _ _ _ Nbxw4.out]; rfl
  obtain ⟨V6, hV6⟩ : ∃ Y, w4.setRow w.heap.size #[.slice (some ⟨G1, 0, none⟩) ks.length c1, .slice (some ⟨G2, 0, none⟩) ns.length c2] = Y := ⟨_, rfl⟩
  have NxV : Hid (V6.heap[w.heap.size]? = some (.cells #[.slice (some ⟨G1, 0, none⟩) ks.length c1, .slice (some ⟨G2, 0, none⟩) ns.length c2] 26 (0, 0))) := (by show _ = _; rw [← hV6]; exact setRow_heap _ _ _ _ _ _ Nbrw4.out)
  have RV6 : Hid (RdAt V6 blk (q + 1)) := (by show RdAt _ _ _; rw [← hV6]; exact RDw4.out.setRow (by omega) _)
  have KV6 : Hid (Kept blk w V6) := (by show Kept _ _ _; rw [← hV6]; exact Kw4.out.setRow (Nat.le_refl _) _)
  have OV6 : Hid (RingOwn lo V6.heap.size V6 (.agg #[.slice (some ⟨G1, 0, none⟩) ks.length c1, .slice (some ⟨G2, 0, none⟩) ns.length c2]) (ks, ns)) := (by have h8 : RingOwn lo w4.heap.size w4 (.agg #[.slice (some ⟨G1, 0, none⟩) ks.length c1, .slice (some ⟨G2, 0, none⟩) ns.length c2]) (ks, ns) := (ring_of_rows (textsRow_of_owns SAw4.out rfl HFIT.out) (intsRow_of_owns SBw4.out rfl)); have h9 := h8.setRowR Nbrw4.out #[.slice (some ⟨G1, 0, none⟩) ks.length c1, .slice (some ⟨G2, 0, none⟩) ns.length c2]; have hs : V6.heap.size = w4.heap.size := (by rw [← hV6]; simp); rw [hV6, ← hs] at h9; exact h9)
  have HV6 : Hid (w4.setRow w.heap.size #[.slice (some ⟨G1, 0, none⟩) ks.length c1, .slice (some ⟨G2, 0, none⟩) ns.length c2] = V6) := hV6
  have v0 : V6.cell? ⟨w.heap.size, 0, none⟩ = some (.slice (some ⟨G1, 0, none⟩) ks.length c1) := (by rw [cell_of_row _ _ 0 _ _ _ NxV.out]; rfl)
  have v1 : V6.cell? ⟨w.heap.size, 1, none⟩ = some (.slice (some ⟨G2, 0, none⟩) ns.length c2) := (by rw [cell_of_row _ _ 1 _ _ _ NxV.out]; rfl)
  clear hV6
  go_wp2_with (refine wpList_store_row rfl 26 _ _ rfl w.heap.size #[.slice (some ⟨G1, 0, none⟩) ks.length c1, .slice (some ⟨G2, 0, none⟩) ns.length c2] rfl rfl 26 _ Nbrw4.out HSZ.out rfl (by simp [Value.oneCell']) ?_; rw [HV6.out])
  refine bodyPost_ret (v := .agg #[.slice (some ⟨G1, 0, none⟩) ks.length c1, .slice (some ⟨G2, 0, none⟩) ns.length c2]) (by simp [results, Tryd.results18, go_sem, v0, v1]) rfl ⟨(ks, ns), _, _, _, _, _, _, rfl, OV6.out.weak480 (by omega) (Nat.le_refl _), ⟨_, RV6.out, by omega⟩, KV6.out⟩
end Go.Proofs.YtdjpeickokoclaaDoor
/-
  A ring and a number, drawn: spec.DrawRingKey; the law FnRingKey.
-/
namespace Go.Proofs.YtdjpeickokoclaaDoor
open Go.RowKit
set_option linter.unusedVariables false
set_option linter.unusedSimpArgs false
theorem keyOf_at493 : ∀ (ks : List ByteArray) (fs : List Int) (n : Int) (c : ByteArray) (m : Nat), m ≤ ks.length → ks.length = fs.length → (∀ (i : Nat) (f : Int), fs[i]? = some f → (f ≤ n ↔ i < m)) → keyOf ks fs n c = if m = 0 then c else (ks[m - 1]?).getD c
  | [], [], n, c, m, h1, _, _ => by
    have : m = 0 := by simpa using h1
    subst this
    rfl
  | k :: ks, f :: fs, n, c, m, h1, h2, h3 => by
    have h0 := h3 0 f rfl
    match m, h1, h3, h0 with
    | 0, h1, h3, h0 =>
      have hf : ¬ f ≤ n := fun h => absurd (h0.1 h) (by omega)
      rw [keyOf, if_neg hf]
      exact keyOf_at493 ks fs n c 0 (Nat.zero_le _) (by simpa using h2) (fun i g hg => by have := h3 (i + 1) g (by simpa using hg); omega)
    | m + 1, h1, h3, h0 =>
      have hf : f ≤ n := h0.2 (by omega)
      rw [keyOf, if_pos hf, keyOf_at493 ks fs n k m (by simpa using h1) (by simpa using h2) (fun i g hg => by have := h3 (i + 1) g (by simpa using hg); omega)]
      match m, h1 with
      | 0, _ => rfl
      | j + 1, h1 =>
        have hj : j < ks.length := by simp at h1; omega
        simp [List.getElem?_eq_getElem hj]
  | [], _ :: _, _, _, _, _, h2, _ => by simp at h2
  | _ :: _, [], _, _, _, _, h2, _ => by simp at h2
theorem asc493 {x : RingM} (h : RingGood x) : ∀ (d i : Nat) (a b : Int), x.2[i]? = some a → x.2[i + d + 1]? = some b → a < b
  | 0, i, a, b, ha, hb => h.2.2.2.2.2.1 i a b ha hb
  | d + 1, i, a, b, ha, hb => by
    have hl := (List.getElem?_eq_some_iff.1 hb).1
    have hc := List.getElem?_eq_getElem (show i + d + 1 < x.2.length by omega)
    have h1 := asc493 h d i a _ ha hc
    have h2 := h.2.2.2.2.2.1 (i + d + 1) _ b hc hb
    omega
theorem asc_le493 {x : RingM} (h : RingGood x) {i j : Nat} {a b : Int} (ha : x.2[i]? = some a) (hb : x.2[j]? = some b) : (a ≤ b ↔ i ≤ j) := by
  rcases Nat.lt_trichotomy i j with h1 | h1 | h1
  · have := asc493 h (j - i - 1) i a b ha (by rw [show i + (j - i - 1) + 1 = j by omega]; exact hb)
    omega
  · subst h1
    rw [ha] at hb
    cases hb
    omega
  · have := asc493 h (i - j - 1) j b a hb (by rw [show j + (i - j - 1) + 1 = i by omega]; exact ha)
    omega
theorem rk_at493 {x : RingM} (h : ringOk x = true) {i : Nat} {k : ByteArray} {f : Int} (hk : x.1[i]? = some k) (hf : x.2[i]? = some f) : rkT x f = k := by
  have hg := ringOk_good h
  have hi := (List.getElem?_eq_some_iff.1 hk).1
  unfold rkT
  rw [h, if_pos rfl, keyOf_at493 x.1 x.2 f ⟨#[]⟩ (i + 1) (by omega) hg.2.2.1.symm (fun j g hj => by rw [asc_le493 hg hj hf]; omega), if_neg (by omega), Nat.add_sub_cancel, hk]
  rfl
theorem rk_ahead493 {x : RingM} (h : ringOk x = true) {i : Nat} {k : ByteArray} {f : Int} (hk : x.1[i]? = some k) (hf : x.2[i + 1]? = some f) : rkT x (f - 1) = k := by
  have hg := ringOk_good h
  have hi := (List.getElem?_eq_some_iff.1 hf).1
  have hl := hg.2.2.1
  unfold rkT
  rw [h, if_pos rfl, keyOf_at493 x.1 x.2 (f - 1) ⟨#[]⟩ (i + 1) (by omega) hl.symm (fun j g hj => ?_), if_neg (by omega), Nat.add_sub_cancel, hk]
  · rfl
  · have h1 := asc_le493 hg hf hj
    omega
end Go.Proofs.YtdjpeickokoclaaDoor
