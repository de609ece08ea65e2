/-
  A ring and a turn, drawn: spec.DrawRingTake.
-/
import Derived.Test.YtdjpeickokoclaaDoorGW493
import Derived.Test.YtdjpeickokoclaaDoorGW483
import Derived.Test.YtdjpeickokoclaaDoorGW407
import Derived.Deep.DeepCutAuto
namespace Go.Proofs.YtdjpeickokoclaaDoor
open Go.RowKit
set_option linter.unusedVariables false
set_option linter.unusedSimpArgs false
theorem RowOwn.setCell494 {t t' : TypeId} {size lo hi q o : Nat} {w : World} {v : Value} {n : Nat} {C : (Nat → Value) → Prop} {old : Array Value} {fr : Nat × Nat} (h : RowOwn t size lo hi w v n C) (hq : w.heap[q]? = some (.cells old t' fr)) (hne : t ≠ t') (u : Value) : RowOwn t size lo hi (w.setCell ⟨q, o, none⟩ u) v n C := by
  obtain ⟨a, cap, hv, h3, h4, hh⟩ := h
  refine ⟨a, cap, hv, h3, h4, fun hn => ?_⟩
  obtain ⟨g, m, f, ha, k1, k2, k3, k4, k5⟩ := hh hn
  have hgq : g ≠ q := by
    rintro rfl
    obtain ⟨cur, hc, _⟩ := k4
    rw [hq] at hc
    cases hc
    exact hne rfl
  exact ⟨g, m, f, ha, k1, k2, k3, k4.of_block (Below.heap_setCell _ _ _ _ hgq), k5⟩
theorem RingOwn.setCell494 {lo hi q o : Nat} {w : World} {v : Value} {x : RingM} {old : Array Value} {fr : Nat × Nat} (h : RingOwn lo hi w v x) (hq : w.heap[q]? = some (.cells old 28 fr)) (u : Value) : RingOwn lo hi (w.setCell ⟨q, o, none⟩ u) v x := by
  obtain ⟨va, vn, hv, h1, h2⟩ := h
  exact ⟨va, vn, hv, ⟨RowOwn.setCell494 h1.1 hq (by decide) u, h1.2⟩, RowOwn.setCell494 h2 hq (by decide) u⟩
theorem box30_494 {w : World} {B : Nat} {t : TypeId} {a b c : Value} (h : w.heap[B]? = some (.cells #[a, b, c] t (0, 0))) (v : Value) : (w.setCell ⟨B, 0, none⟩ v).heap[B]? = some (.cells #[v, b, c] t (0, 0)) := by
  have hlt := lt_of_block405 h
  unfold World.setCell
  rw [Array.getElem?_modify]
  simp [h]
theorem box31_494 {w : World} {B : Nat} {t : TypeId} {a b c : Value} (h : w.heap[B]? = some (.cells #[a, b, c] t (0, 0))) (v : Value) : (w.setCell ⟨B, 1, none⟩ v).heap[B]? = some (.cells #[a, v, c] t (0, 0)) := by
  have hlt := lt_of_block405 h
  unfold World.setCell
  rw [Array.getElem?_modify]
  simp [h]
theorem box32_494 {w : World} {B : Nat} {t : TypeId} {a b c : Value} (h : w.heap[B]? = some (.cells #[a, b, c] t (0, 0))) (v : Value) : (w.setCell ⟨B, 2, none⟩ v).heap[B]? = some (.cells #[a, b, v] t (0, 0)) := by
  have hlt := lt_of_block405 h
  unfold World.setCell
  rw [Array.getElem?_modify]
  simp [h]
theorem cell_lt494 {w : World} {p : Addr} {v : Value} (h : w.cell? p = some v) : p.block < w.heap.size := by
  rcases Nat.lt_or_ge p.block w.heap.size with hlt | hge
  · exact hlt
  · unfold World.cell? at h
    rw [Array.getElem?_eq_none hge] at h
    simp at h
theorem keep494 {k : IntKind} {w w' : World} {a : Option Addr} {len cap : Nat} {zs : List Int} (h : IsRow k w a len cap zs) (hb : Below w.heap.size w w') : IsRow k w' a len cap zs := by
  rcases h with h | ⟨x, h1, h2, h3, h4, h5, h6⟩
  · exact .inl h
  · exact .inr ⟨x, h1, h2, h3, h4, fun i hi => (hb.cell (cell_lt494 (h5 i hi))).trans (h5 i hi), h6⟩
theorem turn494 (w : World) (v : Value) (x : RingM) (key : ByteArray) (fr : Nat) (h : RingAt w v x) (hk : key.size ≤ 10) (hf : fr ≤ 100) :
    Calls Tryd.prog 15 #[v, .string key, .int .i64 (fr : Int)] w fun e w' => ∃ (rk : ByteArray) (tf : Int) (ts : ByteArray) (b : Bool), e = .returned (.tuple #[.agg #[.string rk, .int .i64 tf, .string ts], .bool b]) ∧ (rk.size ≤ 10 ∧ 0 ≤ tf ∧ tf ≤ 100) ∧ Below w.heap.size w w' := by
  refine (specTurnOf_any w v x key fr h (by unfold maxLen; omega)).mono ?_
  rintro e w' ⟨rfl, hb⟩
  refine ⟨_, _, _, _, rfl, ?_, hb⟩
  unfold tofT
  split
  · exact ⟨hk, by show (0 : Int) ≤ (fr : Int); omega, by show (fr : Int) ≤ 100; omega⟩
  · exact ⟨Nat.zero_le _, by decide, by decide⟩
set_option maxRecDepth 100000 in
set_option maxHeartbeats 8000000 in
theorem drawRingTake_any (w : World) (a : Option Addr) (len cap : Nat) (zs : List Int) (h : IsRow .u8 w a len cap zs) :
    Calls Tryd.prog 5 #[.slice a len cap] w fun e w' => ∃ (g1 : Option Addr) (n1 c1 : Nat) (g2 : Option Addr) (n2 c2 : Nat) (x : RingM) (rk : ByteArray) (tf : Int) (ts : ByteArray), e = .returned (.tuple #[.agg #[.slice g1 n1 c1, .slice g2 n2 c2], .agg #[.string rk, .int .i64 tf, .string ts]]) ∧ RingAt w' (.agg #[.slice g1 n1 c1, .slice g2 n2 c2]) x ∧ rk.size ≤ 11 ∧ 0 ≤ tf ∧ tf ≤ 101 ∧ Below w.heap.size w w' := by
  have HI : Hid (IsRow .u8 w a len cap zs) := h
  clear h
  go_enter Tryd.func5, Tryd.ntmps5
  go_wp2_with fail
  obtain ⟨w0, hw0⟩ : ∃ x, (w.alloc (.cells #[.slice none 0 0, .slice none 0 0] 26)).alloc (.cells #[.string ⟨#[]⟩, .int .i64 0, .string ⟨#[]⟩] 28) = x := ⟨_, rfl⟩
  have HB0 : Hid (Below w.heap.size w w0) := by show Below _ _ _; rw [← hw0]; exact ((Below.refl w.heap.size w).alloc (Nat.le_refl _) _).alloc (by simp) _
  have HI0 : IsRow .u8 w0 a len cap zs := keep494 HI.out HB0.out
  have HR0 : Hid (w0.heap[w.heap.size]? = some (.cells #[.slice none 0 0, .slice none 0 0] 26 (0, 0))) := by show _ = _; rw [← hw0]; exact heap_alloc2_old _ _ _
  have HT0 : Hid (w0.heap[w.heap.size + 1]? = some (.cells #[.string ⟨#[]⟩, .int .i64 0, .string ⟨#[]⟩] 28 (0, 0))) := by show _ = _; rw [← hw0]; exact heap_alloc2_new _ _ _
  have hz0 : w0.heap.size = w.heap.size + 1 + 1 := by rw [← hw0]; simp
  rw [hw0]
  clear hw0
  refine (open_any w0 a len cap zs HI0).mono ?_
  rintro e w1 ⟨rfl, hr1, hb1⟩
  rw [hz0] at hr1 ⊢
  have HR1 : Hid (RdAt w1 (w.heap.size + 1 + 1) 0) := hr1
  have HB1 : Hid (Below w0.heap.size w0 w1) := hb1
  have hz1 : w.heap.size + 1 + 1 < w1.heap.size := hr1.lt
  have N1 : Hid (w1.heap[w.heap.size]? = some (.cells #[.slice none 0 0, .slice none 0 0] 26 (0, 0))) := (hb1.block _ (by omega)).trans HR0.out
  have T1 : Hid (w1.heap[w.heap.size + 1]? = some (.cells #[.string ⟨#[]⟩, .int .i64 0, .string ⟨#[]⟩] 28 (0, 0))) := (hb1.block _ (by omega)).trans HT0.out
  clear hr1 hb1 HI0
  go_wp2_with fail
  refine (l13AnyRing_any w1 (w.heap.size + 1 + 1) 0 HR1.out (by omega)).mono ?_
  rintro e w2 ⟨x, g1, n1, c1, g2, n2, c2, rfl, ho, ⟨q, hr, hq⟩, hk⟩
  have hz2 : w1.heap.size ≤ w2.heap.size := hk.size
  obtain ⟨lo, hlo⟩ : ∃ l, w1.heap.size = l := ⟨_, rfl⟩
  obtain ⟨hi, hhi⟩ : ∃ l, w2.heap.size = l := ⟨_, rfl⟩
  obtain ⟨w3, hw3⟩ : ∃ x, w2.alloc (.cells #[.slice g1 n1 c1, .slice g2 n2 c2] 26) = x := ⟨_, rfl⟩
  have hb3 : Below w2.heap.size w2 w3 := by rw [← hw3]; exact (Below.refl _ _).alloc (Nat.le_refl _) _
  rw [hlo, hhi] at ho
  have OOw3 : Hid (RingOwn lo hi w3 (.agg #[.slice g1 n1 c1, .slice g2 n2 c2]) x) := ho.below hb3
  have RDw3 : Hid (RdAt w3 (w.heap.size + 1 + 1) q) := hr.keep hb3
  have Kw3 : Hid (Kept (w.heap.size + 1 + 1) w1 w3) := hk.trans (Kept.of_below hb3)
  have Nbrw3 : Hid (w3.heap[w.heap.size]? = some (.cells #[.slice none 0 0, .slice none 0 0] 26 (0, 0))) := (hb3.block _ (by omega)).trans ((hk.block _ (by omega) (by omega)).trans N1.out)
  have Nbtw3 : Hid (w3.heap[w.heap.size + 1]? = some (.cells #[.string ⟨#[]⟩, .int .i64 0, .string ⟨#[]⟩] 28 (0, 0))) := (hb3.block _ (by omega)).trans ((hk.block _ (by omega) (by omega)).trans T1.out)
  have Nbxw3 : Hid (w3.heap[hi]? = some (.cells #[.slice g1 n1 c1, .slice g2 n2 c2] 26 (0, 0))) := by show _ = _; rw [← hw3, ← hhi]; exact heap_alloc_last w2 _
  have HLO : Hid (w.heap.size + 1 + 1 < lo ∧ lo ≤ hi ∧ lo = w1.heap.size) := ⟨by omega, by omega, hlo.symm⟩
  have HHI : Hid (w2.heap.size = hi) := hhi
  have HW3 : Hid (w2.alloc (.cells #[.slice g1 n1 c1, .slice g2 n2 c2] 26) = w3) := hw3
  have hq30 : q ≤ 30 := by omega
  have hl1 : w.heap.size + 1 + 1 < lo := HLO.out.1
  have hl2 : lo ≤ hi := HLO.out.2.1
  have hl4 : w1.heap.size ≤ hi := by omega
  clear ho hr hk hb3 hw3 hhi hlo hq hz2
  go_wp2_with fail
  try rw [HW3.out]
  try rw [HHI.out]
  go_cut [6] (fun u wx => ∃ (b8 : Nat) (rk : ByteArray) (tf : Int) (ts : ByteArray) (q' : Nat), u = .pointer (some ⟨b8, 0, none⟩) ∧ wx.heap[b8]? = some (.cells #[.string rk, .int .i64 tf, .string ts] 28 (0, 0)) ∧ (rk.size ≤ 10 ∧ 0 ≤ tf ∧ tf ≤ 100) ∧ w.heap.size + 1 + 1 < b8 ∧ b8 ≠ hi ∧ wx.heap[w.heap.size]? = some (.cells #[.slice none 0 0, .slice none 0 0] 26 (0, 0)) ∧ wx.heap[w.heap.size + 1]? = some (.cells #[.string ⟨#[]⟩, .int .i64 0, .string ⟨#[]⟩] 28 (0, 0)) ∧ wx.heap[hi]? = some (.cells #[.slice g1 n1 c1, .slice g2 n2 c2] 26 (0, 0)) ∧ RingOwn lo hi wx (.agg #[.slice g1 n1 c1, .slice g2 n2 c2]) x ∧ RdAt wx (w.heap.size + 1 + 1) q' ∧ q' ≤ 40 ∧ Kept (w.heap.size + 1 + 1) w1 wx)
  case first =>
    have Zw3 : Hid (hi < w3.heap.size) := (Array.getElem?_eq_some_iff.1 Nbxw3.out).1
    have zw3 := Zw3.out
    refine wp_region_held_drew (S := (fun w' => w'.cell? ⟨hi, 0, none⟩ = some (.slice g1 n1 c1) ∧ w'.cell? ⟨hi, 1, none⟩ = some (.slice g2 n2 c2))) (by kernel_rfl) ?_ (fun hHeld => ?_)
    · exact ⟨by show w3.cell? ⟨hi, 0, none⟩ = _; rw [cell_of_row _ _ 0 _ _ _ Nbxw3.out]; rfl, by show w3.cell? ⟨hi, 1, none⟩ = _; rw [cell_of_row _ _ 1 _ _ _ Nbxw3.out]; rfl⟩
    refine tk 0 13 (.agg #[.slice g1 n1 c1, .slice g2 n2 c2]) ?_
    simp only [Act.put, List.setIfInBounds_toArray, List.set_cons_zero, List.set_cons_succ]
    refine tk 1 14 (.pointer (some ⟨w.heap.size + 1 + 1, 0, none⟩)) ?_
    simp only [Act.put, List.setIfInBounds_toArray, List.set_cons_zero, List.set_cons_succ]
    refine tk 4 17 (.pointer (some ⟨w.heap.size + 1 + 1, 0, none⟩)) ?_
    simp only [Act.put, List.setIfInBounds_toArray, List.set_cons_zero, List.set_cons_succ]
    obtain ⟨y0, hx⟩ : ∃ X, World.drew w3 = X := ⟨_, rfl⟩
    have Ky0 : Hid (Kept (w.heap.size + 1 + 1) w1 y0) := by show Kept _ _ _; rw [← hx]; exact Kw3.out.trans (Kept.of_below (Below.refl _ _).drew)
    have Zy0 : Hid (w3.heap.size ≤ y0.heap.size) := by show _ ≤ _; rw [← hx]; exact Nat.le_refl _
    have RDy0 : Hid (RdAt y0 (w.heap.size + 1 + 1) q) := by have h9 := RDw3.out.below (Below.refl _ _).drew; rw [hx] at h9; exact h9
    have OOy0 : Hid (RingOwn lo hi y0 (.agg #[.slice g1 n1 c1, .slice g2 n2 c2]) x) := by have h9 := OOw3.out.below (Below.refl _ _).drew; rw [hx] at h9; exact h9
    have Nbry0 : Hid (y0.heap[w.heap.size]? = some (.cells #[.slice none 0 0, .slice none 0 0] 26 (0, 0))) := by show _ = _; rw [← hx]; exact Nbrw3.out
    have Nbty0 : Hid (y0.heap[w.heap.size + 1]? = some (.cells #[.string ⟨#[]⟩, .int .i64 0, .string ⟨#[]⟩] 28 (0, 0))) := by show _ = _; rw [← hx]; exact Nbtw3.out
    have Nbxy0 : Hid (y0.heap[hi]? = some (.cells #[.slice g1 n1 c1, .slice g2 n2 c2] 26 (0, 0))) := by show _ = _; rw [← hx]; exact Nbxw3.out
    rw [hx]
    clear hx
    refine wpAnyH_ready (rs := [2, 11]) (by kernel_rfl) (by simp) ?_
    refine AllReadyH.cons rfl (fun K hK => ?_) (AllReadyH.cons rfl (fun K hK => ?_) AllReadyH.nil)
    · skip
      go_simp
      have NA : Hid ((y0.alloc (.cells #[.string ⟨#[110, 101, 119]⟩, .string ⟨#[110, 101, 119, 101, 114]⟩] 9)).heap[y0.heap.size]? = some (.cells #[.string ⟨#[110, 101, 119]⟩, .string ⟨#[110, 101, 119, 101, 114]⟩] 9 (0, 0))) := heap_alloc_last _ _
      obtain ⟨y1, hx⟩ : ∃ X, y0.alloc (.cells #[.string ⟨#[110, 101, 119]⟩, .string ⟨#[110, 101, 119, 101, 114]⟩] 9) = X := ⟨_, rfl⟩
      have hb : Below y0.heap.size y0 y1 := by rw [← hx]; exact (Below.refl _ _).alloc (Nat.le_refl _) _
      have Zy1 : Hid (y0.heap.size < y1.heap.size) := by show _ < _; rw [← hx]; simp
      have Nq15_y1 : Hid (y1.heap[y0.heap.size]? = some (.cells #[.string ⟨#[110, 101, 119]⟩, .string ⟨#[110, 101, 119, 101, 114]⟩] 9 (0, 0))) := by show _ = _; rw [← hx]; exact NA.out
      have Ky1 : Hid (Kept (w.heap.size + 1 + 1) w1 y1) := Ky0.out.trans (Kept.of_below hb)
      have HQq15_ : Hid (w1.heap.size ≤ y0.heap.size) := Ky0.out.size
      have RDy1 : Hid (RdAt y1 (w.heap.size + 1 + 1) q) := RDy0.out.below hb
      have OOy1 : Hid (RingOwn lo hi y1 (.agg #[.slice g1 n1 c1, .slice g2 n2 c2]) x) := OOy0.out.below hb
      have Nbry1 : Hid (y1.heap[w.heap.size]? = some (.cells #[.slice none 0 0, .slice none 0 0] 26 (0, 0))) := (hb.block _ (Array.getElem?_eq_some_iff.1 Nbry0.out).1).trans Nbry0.out
      have Nbty1 : Hid (y1.heap[w.heap.size + 1]? = some (.cells #[.string ⟨#[]⟩, .int .i64 0, .string ⟨#[]⟩] 28 (0, 0))) := (hb.block _ (Array.getElem?_eq_some_iff.1 Nbty0.out).1).trans Nbty0.out
      have Nbxy1 : Hid (y1.heap[hi]? = some (.cells #[.slice g1 n1 c1, .slice g2 n2 c2] 26 (0, 0))) := (hb.block _ (Array.getElem?_eq_some_iff.1 Nbxy0.out).1).trans Nbxy0.out
      rw [hx]
      clear hx NA hb
      refine hK.out _ _ ?_ (fun hHeld => ?_)
      · exact ⟨by show y1.cell? ⟨hi, 0, none⟩ = _; rw [cell_of_row _ _ 0 _ _ _ Nbxy1.out]; rfl, by show y1.cell? ⟨hi, 1, none⟩ = _; rw [cell_of_row _ _ 1 _ _ _ Nbxy1.out]; rfl⟩
      clear hK K
      try simp only [Act.put, List.setIfInBounds_toArray, List.set_cons_zero, List.set_cons_succ]
      refine wpAnyH_ready (rs := [3, 11]) (by kernel_rfl) (by simp) ?_
      refine AllReadyH.cons rfl (fun K hK => ?_) (AllReadyH.cons rfl (fun K hK => ?_) AllReadyH.nil)
      · skip
        go_simp
        refine (of_any (fun s => s.size ≤ 10) _ (w.heap.size + 1 + 1) (q) (y0.heap.size) 2 2 RDy1.out (by omega) (by omega) (by omega) (fun i hi => by match i, hi with | 0, _ => exact ⟨_, by rw [cell_of_row _ _ 0 _ _ _ Nq15_y1.out]; rfl, by decide⟩ | 1, _ => exact ⟨_, by rw [cell_of_row _ _ 1 _ _ _ Nq15_y1.out]; rfl, by decide⟩) (by have := HQq15_.out; omega)).mono ?_
        rintro e y2 ⟨s16, rfl, hs, hr, hb⟩
        have HS16 : Hid (s16.size ≤ 10) := hs
        clear hs
        have Zy2 : Hid (y1.heap.size ≤ y2.heap.size) := hb.size
        have Ky2 : Hid (Kept (w.heap.size + 1 + 1) w1 y2) := Ky1.out.trans hb
        have OOy2 : Hid (RingOwn lo hi y2 (.agg #[.slice g1 n1 c1, .slice g2 n2 c2]) x) := OOy1.out.kept hb (by omega)
        have Nbry2 : Hid (y2.heap[w.heap.size]? = some (.cells #[.slice none 0 0, .slice none 0 0] 26 (0, 0))) := (hb.block _ (Array.getElem?_eq_some_iff.1 Nbry1.out).1 (by first | omega | (have := HQbr.out; omega))).trans Nbry1.out
        have Nbty2 : Hid (y2.heap[w.heap.size + 1]? = some (.cells #[.string ⟨#[]⟩, .int .i64 0, .string ⟨#[]⟩] 28 (0, 0))) := (hb.block _ (Array.getElem?_eq_some_iff.1 Nbty1.out).1 (by first | omega | (have := HQbt.out; omega))).trans Nbty1.out
        have Nbxy2 : Hid (y2.heap[hi]? = some (.cells #[.slice g1 n1 c1, .slice g2 n2 c2] 26 (0, 0))) := (hb.block _ (Array.getElem?_eq_some_iff.1 Nbxy1.out).1 (by first | omega | (have := HQbx.out; omega))).trans Nbxy1.out
        have Nq15_y2 : Hid (y2.heap[y0.heap.size]? = some (.cells #[.string ⟨#[110, 101, 119]⟩, .string ⟨#[110, 101, 119, 101, 114]⟩] 9 (0, 0))) := (hb.block _ (Array.getElem?_eq_some_iff.1 Nq15_y1.out).1 (by first | omega | (have := HQq15_.out; omega))).trans Nq15_y1.out
        have RDy2 : Hid (RdAt y2 (w.heap.size + 1 + 1) (q + 1)) := hr
        clear hb
        refine hK.out _ _ ?_ (fun hHeld => ?_)
        · exact ⟨by show y2.cell? ⟨hi, 0, none⟩ = _; rw [cell_of_row _ _ 0 _ _ _ Nbxy2.out]; rfl, by show y2.cell? ⟨hi, 1, none⟩ = _; rw [cell_of_row _ _ 1 _ _ _ Nbxy2.out]; rfl⟩
        clear hK K
        try simp only [Act.put, List.setIfInBounds_toArray, List.set_cons_zero, List.set_cons_succ]
        refine wpAnyH_ready (rs := [5, 11]) (by kernel_rfl) (by simp) ?_
        refine AllReadyH.cons rfl (fun K hK => ?_) (AllReadyH.cons rfl (fun K hK => ?_) AllReadyH.nil)
        · skip
          go_simp
          refine (pick_any _ (w.heap.size + 1 + 1) (q + 1) 9 RDy2.out (by omega) (by omega)).mono ?_
          rintro e y3 ⟨v5, rfl, hv0, hv1, hr, hb⟩
          obtain ⟨V5, rfl⟩ : ∃ V : Nat, v5 = (V : Int) := ⟨v5.toNat, by omega⟩
          have hV5 : V5 < 9 := by have := hv1 (by omega); omega
          obtain ⟨F5, hF5⟩ : ∃ F : Nat, 20 + V5 = F := ⟨_, rfl⟩
          have qf : IntKind.i64.wrap (20 + (V5 : Int)) = (F5 : Int) := by rw [IntWalk.i64_in _ (by omega)]; omega
          have hF5b : F5 ≤ 100 := by omega
          clear hv0 hv1 hF5
          have Zy3 : Hid (y2.heap.size ≤ y3.heap.size) := hb.size
          have Ky3 : Hid (Kept (w.heap.size + 1 + 1) w1 y3) := Ky2.out.trans hb
          have OOy3 : Hid (RingOwn lo hi y3 (.agg #[.slice g1 n1 c1, .slice g2 n2 c2]) x) := OOy2.out.kept hb (by omega)
          have Nbry3 : Hid (y3.heap[w.heap.size]? = some (.cells #[.slice none 0 0, .slice none 0 0] 26 (0, 0))) := (hb.block _ (Array.getElem?_eq_some_iff.1 Nbry2.out).1 (by first | omega | (have := HQbr.out; omega))).trans Nbry2.out
          have Nbty3 : Hid (y3.heap[w.heap.size + 1]? = some (.cells #[.string ⟨#[]⟩, .int .i64 0, .string ⟨#[]⟩] 28 (0, 0))) := (hb.block _ (Array.getElem?_eq_some_iff.1 Nbty2.out).1 (by first | omega | (have := HQbt.out; omega))).trans Nbty2.out
          have Nbxy3 : Hid (y3.heap[hi]? = some (.cells #[.slice g1 n1 c1, .slice g2 n2 c2] 26 (0, 0))) := (hb.block _ (Array.getElem?_eq_some_iff.1 Nbxy2.out).1 (by first | omega | (have := HQbx.out; omega))).trans Nbxy2.out
          have Nq15_y3 : Hid (y3.heap[y0.heap.size]? = some (.cells #[.string ⟨#[110, 101, 119]⟩, .string ⟨#[110, 101, 119, 101, 114]⟩] 9 (0, 0))) := (hb.block _ (Array.getElem?_eq_some_iff.1 Nq15_y2.out).1 (by first | omega | (have := HQq15_.out; omega))).trans Nq15_y2.out
          have RDy3 : Hid (RdAt y3 (w.heap.size + 1 + 1) (q + 1 + 1)) := hr
          clear hb
          refine hK.out _ _ ?_ (fun hHeld => ?_)
          · exact ⟨by show y3.cell? ⟨hi, 0, none⟩ = _; rw [cell_of_row _ _ 0 _ _ _ Nbxy3.out]; rfl, by show y3.cell? ⟨hi, 1, none⟩ = _; rw [cell_of_row _ _ 1 _ _ _ Nbxy3.out]; rfl⟩
          clear hK K
          try simp only [Act.put, List.setIfInBounds_toArray, List.set_cons_zero, List.set_cons_succ]
          refine tk 6 19 (.int .i64 (F5 : Int)) ?_
          simp only [Act.put, List.setIfInBounds_toArray, List.set_cons_zero, List.set_cons_succ]
          refine wpAnyH_ready (rs := [7, 11]) (by kernel_rfl) (by simp) ?_
          refine AllReadyH.cons rfl (fun K hK => ?_) (AllReadyH.cons rfl (fun K hK => ?_) AllReadyH.nil)
          · skip
            go_simp
            refine (turn494 _ _ x s16 F5 OOy3.out.at HS16.out hF5b).mono ?_
            rintro e y4 ⟨rk, tf, ts, b, rfl, htk, hb⟩
            have HTK : Hid (rk.size ≤ 10 ∧ 0 ≤ tf ∧ tf ≤ 100) := htk
            clear htk
            have Zy4 : Hid (y3.heap.size ≤ y4.heap.size) := hb.size
            have Ky4 : Hid (Kept (w.heap.size + 1 + 1) w1 y4) := Ky3.out.trans (Kept.of_below hb)
            have OOy4 : Hid (RingOwn lo hi y4 (.agg #[.slice g1 n1 c1, .slice g2 n2 c2]) x) := OOy3.out.below hb
            have RDy4 : Hid (RdAt y4 (w.heap.size + 1 + 1) (q + 1 + 1)) := RDy3.out.below hb
            have Nbry4 : Hid (y4.heap[w.heap.size]? = some (.cells #[.slice none 0 0, .slice none 0 0] 26 (0, 0))) := (hb.block _ (Array.getElem?_eq_some_iff.1 Nbry3.out).1).trans Nbry3.out
            have Nbty4 : Hid (y4.heap[w.heap.size + 1]? = some (.cells #[.string ⟨#[]⟩, .int .i64 0, .string ⟨#[]⟩] 28 (0, 0))) := (hb.block _ (Array.getElem?_eq_some_iff.1 Nbty3.out).1).trans Nbty3.out
            have Nbxy4 : Hid (y4.heap[hi]? = some (.cells #[.slice g1 n1 c1, .slice g2 n2 c2] 26 (0, 0))) := (hb.block _ (Array.getElem?_eq_some_iff.1 Nbxy3.out).1).trans Nbxy3.out
            have Nq15_y4 : Hid (y4.heap[y0.heap.size]? = some (.cells #[.string ⟨#[110, 101, 119]⟩, .string ⟨#[110, 101, 119, 101, 114]⟩] 9 (0, 0))) := (hb.block _ (Array.getElem?_eq_some_iff.1 Nq15_y3.out).1).trans Nq15_y3.out
            clear hb
            refine hK.out _ _ ?_ (fun hHeld => ?_)
            · exact ⟨by show y4.cell? ⟨hi, 0, none⟩ = _; rw [cell_of_row _ _ 0 _ _ _ Nbxy4.out]; rfl, by show y4.cell? ⟨hi, 1, none⟩ = _; rw [cell_of_row _ _ 1 _ _ _ Nbxy4.out]; rfl⟩
            clear hK K
            try simp only [Act.put, List.setIfInBounds_toArray, List.set_cons_zero, List.set_cons_succ]
            refine tk 8 12 (.tuple #[.agg #[.string rk, .int .i64 tf, .string ts], .bool b]) ?_
            simp only [Act.put, List.setIfInBounds_toArray, List.set_cons_zero, List.set_cons_succ]
            refine tk 9 21 (.agg #[.string rk, .int .i64 tf, .string ts]) ?_
            simp only [Act.put, List.setIfInBounds_toArray, List.set_cons_zero, List.set_cons_succ]
            refine tk 10 22 (.bool b) ?_
            simp only [Act.put, List.setIfInBounds_toArray, List.set_cons_zero, List.set_cons_succ]
            refine wpAnyH_ready (rs := [11]) (by kernel_rfl) (by simp) ?_
            refine AllReadyH.cons rfl (fun K hK => ?_) AllReadyH.nil
            go_simp
            have NA : Hid ((y4.alloc (.cells #[.string ⟨#[]⟩, .int .i64 0, .string ⟨#[]⟩] 28)).heap[y4.heap.size]? = some (.cells #[.string ⟨#[]⟩, .int .i64 0, .string ⟨#[]⟩] 28 (0, 0))) := heap_alloc_last _ _
            obtain ⟨y5, hx⟩ : ∃ X, y4.alloc (.cells #[.string ⟨#[]⟩, .int .i64 0, .string ⟨#[]⟩] 28) = X := ⟨_, rfl⟩
            have hb : Below y4.heap.size y4 y5 := by rw [← hx]; exact (Below.refl _ _).alloc (Nat.le_refl _) _
            have Zy5 : Hid (y4.heap.size < y5.heap.size) := by show _ < _; rw [← hx]; simp
            have Nq6_y5 : Hid (y5.heap[y4.heap.size]? = some (.cells #[.string ⟨#[]⟩, .int .i64 0, .string ⟨#[]⟩] 28 (0, 0))) := by show _ = _; rw [← hx]; exact NA.out
            have Ky5 : Hid (Kept (w.heap.size + 1 + 1) w1 y5) := Ky4.out.trans (Kept.of_below hb)
            have HQq6_ : Hid (w1.heap.size ≤ y4.heap.size) := Ky4.out.size
            have OOy5 : Hid (RingOwn lo hi y5 (.agg #[.slice g1 n1 c1, .slice g2 n2 c2]) x) := OOy4.out.below hb
            have RDy5 : Hid (RdAt y5 (w.heap.size + 1 + 1) (q + 1 + 1)) := RDy4.out.below hb
            have Nbry5 : Hid (y5.heap[w.heap.size]? = some (.cells #[.slice none 0 0, .slice none 0 0] 26 (0, 0))) := (hb.block _ (Array.getElem?_eq_some_iff.1 Nbry4.out).1).trans Nbry4.out
            have Nbty5 : Hid (y5.heap[w.heap.size + 1]? = some (.cells #[.string ⟨#[]⟩, .int .i64 0, .string ⟨#[]⟩] 28 (0, 0))) := (hb.block _ (Array.getElem?_eq_some_iff.1 Nbty4.out).1).trans Nbty4.out
            have Nbxy5 : Hid (y5.heap[hi]? = some (.cells #[.slice g1 n1 c1, .slice g2 n2 c2] 26 (0, 0))) := (hb.block _ (Array.getElem?_eq_some_iff.1 Nbxy4.out).1).trans Nbxy4.out
            have Nq15_y5 : Hid (y5.heap[y0.heap.size]? = some (.cells #[.string ⟨#[110, 101, 119]⟩, .string ⟨#[110, 101, 119, 101, 114]⟩] 9 (0, 0))) := (hb.block _ (Array.getElem?_eq_some_iff.1 Nq15_y4.out).1).trans Nq15_y4.out
            rw [hx]
            clear hx NA hb
            refine hK.out _ _ ?_ (fun hHeld => ?_)
            · exact ⟨by show y5.cell? ⟨hi, 0, none⟩ = _; rw [cell_of_row _ _ 0 _ _ _ Nbxy5.out]; rfl, by show y5.cell? ⟨hi, 1, none⟩ = _; rw [cell_of_row _ _ 1 _ _ _ Nbxy5.out]; rfl⟩
            clear hK K
            try simp only [Act.put, List.setIfInBounds_toArray, List.set_cons_zero, List.set_cons_succ]
            refine wpAnyH_ready (rs := [12]) (by kernel_rfl) (by simp) ?_
            refine AllReadyH.cons rfl (fun K hK => ?_) AllReadyH.nil
            refine step_store_row rfl 28 (.tmp 6) (.tmp 21) rfl (y4.heap.size) #[.string rk, .int .i64 tf, .string ts] rfl rfl 28 _ Nq6_y5.out (by kernel_rfl) rfl (by simp [Value.oneCell']) rfl ?_
            obtain ⟨y6, hx⟩ : ∃ X, y5.setRow (y4.heap.size) #[.string rk, .int .i64 tf, .string ts] = X := ⟨_, rfl⟩
            have Ky6 : Hid (Kept (w.heap.size + 1 + 1) w1 y6) := by show Kept _ _ _; rw [← hx]; exact Ky5.out.setRow HQq6_.out _
            have Zy6 : Hid (y6.heap.size = y5.heap.size) := by show _ = _; rw [← hx]; simp
            have zy0 := Zy0.out
            have zy1 := Zy1.out
            have zy2 := Zy2.out
            have zy3 := Zy3.out
            have zy4 := Zy4.out
            have zy5 := Zy5.out
            have OOy6 : Hid (RingOwn lo hi y6 (.agg #[.slice g1 n1 c1, .slice g2 n2 c2]) x) := by have h9 := OOy5.out; simp only [Hid] at h9 ⊢; rw [← hx]; exact h9.setRowT2 Nq6_y5.out _
            have RDy6 : Hid (RdAt y6 (w.heap.size + 1 + 1) (q + 1 + 1)) := by have h9 := RDy5.out; simp only [Hid] at h9 ⊢; rw [← hx]; exact h9.setRow (by have := HQq6_.out; omega) _
            have Nq6_y6 : Hid (y6.heap[y4.heap.size]? = some (.cells #[.string rk, .int .i64 tf, .string ts] 28 (0, 0))) := by show _ = _; rw [← hx]; exact setRow_heap _ _ _ _ _ _ Nq6_y5.out
            have Nbry6 : Hid (y6.heap[w.heap.size]? = some (.cells #[.slice none 0 0, .slice none 0 0] 26 (0, 0))) := by show _ = _; rw [← hx]; exact (setRow_other _ _ _ _ (by omega)).trans Nbry5.out
            have Nbty6 : Hid (y6.heap[w.heap.size + 1]? = some (.cells #[.string ⟨#[]⟩, .int .i64 0, .string ⟨#[]⟩] 28 (0, 0))) := by show _ = _; rw [← hx]; exact (setRow_other _ _ _ _ (by omega)).trans Nbty5.out
            have Nbxy6 : Hid (y6.heap[hi]? = some (.cells #[.slice g1 n1 c1, .slice g2 n2 c2] 26 (0, 0))) := by show _ = _; rw [← hx]; exact (setRow_other _ _ _ _ (by omega)).trans Nbxy5.out
            have Nq15_y6 : Hid (y6.heap[y0.heap.size]? = some (.cells #[.string ⟨#[110, 101, 119]⟩, .string ⟨#[110, 101, 119, 101, 114]⟩] 9 (0, 0))) := by show _ = _; rw [← hx]; exact (setRow_other _ _ _ _ (by omega)).trans Nq15_y5.out
            clear zy0
            clear zy1
            clear zy2
            clear zy3
            clear zy4
            clear zy5
            rw [hx]
            clear hx
            refine hK.out _ _ ?_ (fun hHeld => ?_)
            · exact ⟨by show y6.cell? ⟨hi, 0, none⟩ = _; rw [cell_of_row _ _ 0 _ _ _ Nbxy6.out]; rfl, by show y6.cell? ⟨hi, 1, none⟩ = _; rw [cell_of_row _ _ 1 _ _ _ Nbxy6.out]; rfl⟩
            clear hK K
            try simp only [Act.put, List.setIfInBounds_toArray, List.set_cons_zero, List.set_cons_succ]
            refine tk 13 7 (.bool b) ?_
            simp only [Act.put, List.setIfInBounds_toArray, List.set_cons_zero, List.set_cons_succ]
            refine wpAnyH_done (by kernel_rfl) ?_ _
            go_wp2
            go_meet
            case rel =>
              have zy0 := Zy0.out
              have zy1 := Zy1.out
              have zy2 := Zy2.out
              have zy3 := Zy3.out
              have zy4 := Zy4.out
              have zy5 := Zy5.out
              have zy6 := Zy6.out
              have hk9 := HQq6_.out
              exact ⟨_, _, _, _, _, rfl, Nq6_y6.out, HTK.out, by omega, by omega, Nbry6.out, Nbty6.out, Nbxy6.out, OOy6.out, RDy6.out, by omega, Ky6.out⟩
          · skip
            go_simp
            have NA : Hid ((y3.alloc (.cells #[.string ⟨#[]⟩, .int .i64 0, .string ⟨#[]⟩] 28)).heap[y3.heap.size]? = some (.cells #[.string ⟨#[]⟩, .int .i64 0, .string ⟨#[]⟩] 28 (0, 0))) := heap_alloc_last _ _
            obtain ⟨y7, hx⟩ : ∃ X, y3.alloc (.cells #[.string ⟨#[]⟩, .int .i64 0, .string ⟨#[]⟩] 28) = X := ⟨_, rfl⟩
            have hb : Below y3.heap.size y3 y7 := by rw [← hx]; exact (Below.refl _ _).alloc (Nat.le_refl _) _
            have Zy7 : Hid (y3.heap.size < y7.heap.size) := by show _ < _; rw [← hx]; simp
            have Nq6_y7 : Hid (y7.heap[y3.heap.size]? = some (.cells #[.string ⟨#[]⟩, .int .i64 0, .string ⟨#[]⟩] 28 (0, 0))) := by show _ = _; rw [← hx]; exact NA.out
            have Ky7 : Hid (Kept (w.heap.size + 1 + 1) w1 y7) := Ky3.out.trans (Kept.of_below hb)
            have HQq6_ : Hid (w1.heap.size ≤ y3.heap.size) := Ky3.out.size
            have OOy7 : Hid (RingOwn lo hi y7 (.agg #[.slice g1 n1 c1, .slice g2 n2 c2]) x) := OOy3.out.below hb
            have RDy7 : Hid (RdAt y7 (w.heap.size + 1 + 1) (q + 1 + 1)) := RDy3.out.below hb
            have Nbry7 : Hid (y7.heap[w.heap.size]? = some (.cells #[.slice none 0 0, .slice none 0 0] 26 (0, 0))) := (hb.block _ (Array.getElem?_eq_some_iff.1 Nbry3.out).1).trans Nbry3.out
            have Nbty7 : Hid (y7.heap[w.heap.size + 1]? = some (.cells #[.string ⟨#[]⟩, .int .i64 0, .string ⟨#[]⟩] 28 (0, 0))) := (hb.block _ (Array.getElem?_eq_some_iff.1 Nbty3.out).1).trans Nbty3.out
            have Nbxy7 : Hid (y7.heap[hi]? = some (.cells #[.slice g1 n1 c1, .slice g2 n2 c2] 26 (0, 0))) := (hb.block _ (Array.getElem?_eq_some_iff.1 Nbxy3.out).1).trans Nbxy3.out
            have Nq15_y7 : Hid (y7.heap[y0.heap.size]? = some (.cells #[.string ⟨#[110, 101, 119]⟩, .string ⟨#[110, 101, 119, 101, 114]⟩] 9 (0, 0))) := (hb.block _ (Array.getElem?_eq_some_iff.1 Nq15_y3.out).1).trans Nq15_y3.out
            rw [hx]
            clear hx NA hb
            refine hK.out _ _ ?_ (fun hHeld => ?_)
            · exact ⟨by show y7.cell? ⟨hi, 0, none⟩ = _; rw [cell_of_row _ _ 0 _ _ _ Nbxy7.out]; rfl, by show y7.cell? ⟨hi, 1, none⟩ = _; rw [cell_of_row _ _ 1 _ _ _ Nbxy7.out]; rfl⟩
            clear hK K
            try simp only [Act.put, List.setIfInBounds_toArray, List.set_cons_zero, List.set_cons_succ]
            refine wpAnyH_ready (rs := [7]) (by kernel_rfl) (by simp) ?_
            refine AllReadyH.cons rfl (fun K hK => ?_) AllReadyH.nil
            go_simp
            refine (turn494 _ _ x s16 F5 OOy7.out.at HS16.out hF5b).mono ?_
            rintro e y8 ⟨rk, tf, ts, b, rfl, htk, hb⟩
            have HTK : Hid (rk.size ≤ 10 ∧ 0 ≤ tf ∧ tf ≤ 100) := htk
            clear htk
            have Zy8 : Hid (y7.heap.size ≤ y8.heap.size) := hb.size
            have Ky8 : Hid (Kept (w.heap.size + 1 + 1) w1 y8) := Ky7.out.trans (Kept.of_below hb)
            have OOy8 : Hid (RingOwn lo hi y8 (.agg #[.slice g1 n1 c1, .slice g2 n2 c2]) x) := OOy7.out.below hb
            have RDy8 : Hid (RdAt y8 (w.heap.size + 1 + 1) (q + 1 + 1)) := RDy7.out.below hb
            have Nbry8 : Hid (y8.heap[w.heap.size]? = some (.cells #[.slice none 0 0, .slice none 0 0] 26 (0, 0))) := (hb.block _ (Array.getElem?_eq_some_iff.1 Nbry7.out).1).trans Nbry7.out
            have Nbty8 : Hid (y8.heap[w.heap.size + 1]? = some (.cells #[.string ⟨#[]⟩, .int .i64 0, .string ⟨#[]⟩] 28 (0, 0))) := (hb.block _ (Array.getElem?_eq_some_iff.1 Nbty7.out).1).trans Nbty7.out
            have Nbxy8 : Hid (y8.heap[hi]? = some (.cells #[.slice g1 n1 c1, .slice g2 n2 c2] 26 (0, 0))) := (hb.block _ (Array.getElem?_eq_some_iff.1 Nbxy7.out).1).trans Nbxy7.out
            have Nq15_y8 : Hid (y8.heap[y0.heap.size]? = some (.cells #[.string ⟨#[110, 101, 119]⟩, .string ⟨#[110, 101, 119, 101, 114]⟩] 9 (0, 0))) := (hb.block _ (Array.getElem?_eq_some_iff.1 Nq15_y7.out).1).trans Nq15_y7.out
            have Nq6_y8 : Hid (y8.heap[y3.heap.size]? = some (.cells #[.string ⟨#[]⟩, .int .i64 0, .string ⟨#[]⟩] 28 (0, 0))) := (hb.block _ (Array.getElem?_eq_some_iff.1 Nq6_y7.out).1).trans Nq6_y7.out
            clear hb
            refine hK.out _ _ ?_ (fun hHeld => ?_)
            · exact ⟨by show y8.cell? ⟨hi, 0, none⟩ = _; rw [cell_of_row _ _ 0 _ _ _ Nbxy8.out]; rfl, by show y8.cell? ⟨hi, 1, none⟩ = _; rw [cell_of_row _ _ 1 _ _ _ Nbxy8.out]; rfl⟩
            clear hK K
            try simp only [Act.put, List.setIfInBounds_toArray, List.set_cons_zero, List.set_cons_succ]
            refine tk 8 12 (.tuple #[.agg #[.string rk, .int .i64 tf, .string ts], .bool b]) ?_
            simp only [Act.put, List.setIfInBounds_toArray, List.set_cons_zero, List.set_cons_succ]
            refine tk 9 21 (.agg #[.string rk, .int .i64 tf, .string ts]) ?_
            simp only [Act.put, List.setIfInBounds_toArray, List.set_cons_zero, List.set_cons_succ]
            refine tk 10 22 (.bool b) ?_
            simp only [Act.put, List.setIfInBounds_toArray, List.set_cons_zero, List.set_cons_succ]
            refine wpAnyH_ready (rs := [12]) (by kernel_rfl) (by simp) ?_
            refine AllReadyH.cons rfl (fun K hK => ?_) AllReadyH.nil
            refine step_store_row rfl 28 (.tmp 6) (.tmp 21) rfl (y3.heap.size) #[.string rk, .int .i64 tf, .string ts] rfl rfl 28 _ Nq6_y8.out (by kernel_rfl) rfl (by simp [Value.oneCell']) rfl ?_
            obtain ⟨y9, hx⟩ : ∃ X, y8.setRow (y3.heap.size) #[.string rk, .int .i64 tf, .string ts] = X := ⟨_, rfl⟩
            have Ky9 : Hid (Kept (w.heap.size + 1 + 1) w1 y9) := by show Kept _ _ _; rw [← hx]; exact Ky8.out.setRow HQq6_.out _
            have Zy9 : Hid (y9.heap.size = y8.heap.size) := by show _ = _; rw [← hx]; simp
            have zy0 := Zy0.out
            have zy1 := Zy1.out
            have zy2 := Zy2.out
            have zy3 := Zy3.out
            have zy7 := Zy7.out
            have zy8 := Zy8.out
            have OOy9 : Hid (RingOwn lo hi y9 (.agg #[.slice g1 n1 c1, .slice g2 n2 c2]) x) := by have h9 := OOy8.out; simp only [Hid] at h9 ⊢; rw [← hx]; exact h9.setRowT2 Nq6_y8.out _
            have RDy9 : Hid (RdAt y9 (w.heap.size + 1 + 1) (q + 1 + 1)) := by have h9 := RDy8.out; simp only [Hid] at h9 ⊢; rw [← hx]; exact h9.setRow (by have := HQq6_.out; omega) _
            have Nq6_y9 : Hid (y9.heap[y3.heap.size]? = some (.cells #[.string rk, .int .i64 tf, .string ts] 28 (0, 0))) := by show _ = _; rw [← hx]; exact setRow_heap _ _ _ _ _ _ Nq6_y8.out
            have Nbry9 : Hid (y9.heap[w.heap.size]? = some (.cells #[.slice none 0 0, .slice none 0 0] 26 (0, 0))) := by show _ = _; rw [← hx]; exact (setRow_other _ _ _ _ (by omega)).trans Nbry8.out
            have Nbty9 : Hid (y9.heap[w.heap.size + 1]? = some (.cells #[.string ⟨#[]⟩, .int .i64 0, .string ⟨#[]⟩] 28 (0, 0))) := by show _ = _; rw [← hx]; exact (setRow_other _ _ _ _ (by omega)).trans Nbty8.out
            have Nbxy9 : Hid (y9.heap[hi]? = some (.cells #[.slice g1 n1 c1, .slice g2 n2 c2] 26 (0, 0))) := by show _ = _; rw [← hx]; exact (setRow_other _ _ _ _ (by omega)).trans Nbxy8.out
            have Nq15_y9 : Hid (y9.heap[y0.heap.size]? = some (.cells #[.string ⟨#[110, 101, 119]⟩, .string ⟨#[110, 101, 119, 101, 114]⟩] 9 (0, 0))) := by show _ = _; rw [← hx]; exact (setRow_other _ _ _ _ (by omega)).trans Nq15_y8.out
            clear zy0
            clear zy1
            clear zy2
            clear zy3
            clear zy7
            clear zy8
            rw [hx]
            clear hx
            refine hK.out _ _ ?_ (fun hHeld => ?_)
            · exact ⟨by show y9.cell? ⟨hi, 0, none⟩ = _; rw [cell_of_row _ _ 0 _ _ _ Nbxy9.out]; rfl, by show y9.cell? ⟨hi, 1, none⟩ = _; rw [cell_of_row _ _ 1 _ _ _ Nbxy9.out]; rfl⟩
            clear hK K
            try simp only [Act.put, List.setIfInBounds_toArray, List.set_cons_zero, List.set_cons_succ]
            refine tk 13 7 (.bool b) ?_
            simp only [Act.put, List.setIfInBounds_toArray, List.set_cons_zero, List.set_cons_succ]
            refine wpAnyH_done (by kernel_rfl) ?_ _
            go_wp2
            go_meet
            case rel =>
              have zy0 := Zy0.out
              have zy1 := Zy1.out
              have zy2 := Zy2.out
              have zy3 := Zy3.out
              have zy7 := Zy7.out
              have zy8 := Zy8.out
              have zy9 := Zy9.out
              have hk9 := HQq6_.out
              exact ⟨_, _, _, _, _, rfl, Nq6_y9.out, HTK.out, by omega, by omega, Nbry9.out, Nbty9.out, Nbxy9.out, OOy9.out, RDy9.out, by omega, Ky9.out⟩
        · skip
          go_simp
          have NA : Hid ((y2.alloc (.cells #[.string ⟨#[]⟩, .int .i64 0, .string ⟨#[]⟩] 28)).heap[y2.heap.size]? = some (.cells #[.string ⟨#[]⟩, .int .i64 0, .string ⟨#[]⟩] 28 (0, 0))) := heap_alloc_last _ _
          obtain ⟨y10, hx⟩ : ∃ X, y2.alloc (.cells #[.string ⟨#[]⟩, .int .i64 0, .string ⟨#[]⟩] 28) = X := ⟨_, rfl⟩
          have hb : Below y2.heap.size y2 y10 := by rw [← hx]; exact (Below.refl _ _).alloc (Nat.le_refl _) _
          have Zy10 : Hid (y2.heap.size < y10.heap.size) := by show _ < _; rw [← hx]; simp
          have Nq6_y10 : Hid (y10.heap[y2.heap.size]? = some (.cells #[.string ⟨#[]⟩, .int .i64 0, .string ⟨#[]⟩] 28 (0, 0))) := by show _ = _; rw [← hx]; exact NA.out
          have Ky10 : Hid (Kept (w.heap.size + 1 + 1) w1 y10) := Ky2.out.trans (Kept.of_below hb)
          have HQq6_ : Hid (w1.heap.size ≤ y2.heap.size) := Ky2.out.size
          have OOy10 : Hid (RingOwn lo hi y10 (.agg #[.slice g1 n1 c1, .slice g2 n2 c2]) x) := OOy2.out.below hb
          have RDy10 : Hid (RdAt y10 (w.heap.size + 1 + 1) (q + 1)) := RDy2.out.below hb
          have Nbry10 : Hid (y10.heap[w.heap.size]? = some (.cells #[.slice none 0 0, .slice none 0 0] 26 (0, 0))) := (hb.block _ (Array.getElem?_eq_some_iff.1 Nbry2.out).1).trans Nbry2.out
          have Nbty10 : Hid (y10.heap[w.heap.size + 1]? = some (.cells #[.string ⟨#[]⟩, .int .i64 0, .string ⟨#[]⟩] 28 (0, 0))) := (hb.block _ (Array.getElem?_eq_some_iff.1 Nbty2.out).1).trans Nbty2.out
          have Nbxy10 : Hid (y10.heap[hi]? = some (.cells #[.slice g1 n1 c1, .slice g2 n2 c2] 26 (0, 0))) := (hb.block _ (Array.getElem?_eq_some_iff.1 Nbxy2.out).1).trans Nbxy2.out
          have Nq15_y10 : Hid (y10.heap[y0.heap.size]? = some (.cells #[.string ⟨#[110, 101, 119]⟩, .string ⟨#[110, 101, 119, 101, 114]⟩] 9 (0, 0))) := (hb.block _ (Array.getElem?_eq_some_iff.1 Nq15_y2.out).1).trans Nq15_y2.out
          rw [hx]
          clear hx NA hb
          refine hK.out _ _ ?_ (fun hHeld => ?_)
          · exact ⟨by show y10.cell? ⟨hi, 0, none⟩ = _; rw [cell_of_row _ _ 0 _ _ _ Nbxy10.out]; rfl, by show y10.cell? ⟨hi, 1, none⟩ = _; rw [cell_of_row _ _ 1 _ _ _ Nbxy10.out]; rfl⟩
          clear hK K
          try simp only [Act.put, List.setIfInBounds_toArray, List.set_cons_zero, List.set_cons_succ]
          refine wpAnyH_ready (rs := [5]) (by kernel_rfl) (by simp) ?_
          refine AllReadyH.cons rfl (fun K hK => ?_) AllReadyH.nil
          go_simp
          refine (pick_any _ (w.heap.size + 1 + 1) (q + 1) 9 RDy10.out (by omega) (by omega)).mono ?_
          rintro e y11 ⟨v5, rfl, hv0, hv1, hr, hb⟩
          obtain ⟨V5, rfl⟩ : ∃ V : Nat, v5 = (V : Int) := ⟨v5.toNat, by omega⟩
          have hV5 : V5 < 9 := by have := hv1 (by omega); omega
          obtain ⟨F5, hF5⟩ : ∃ F : Nat, 20 + V5 = F := ⟨_, rfl⟩
          have qf : IntKind.i64.wrap (20 + (V5 : Int)) = (F5 : Int) := by rw [IntWalk.i64_in _ (by omega)]; omega
          have hF5b : F5 ≤ 100 := by omega
          clear hv0 hv1 hF5
          have Zy11 : Hid (y10.heap.size ≤ y11.heap.size) := hb.size
          have Ky11 : Hid (Kept (w.heap.size + 1 + 1) w1 y11) := Ky10.out.trans hb
          have OOy11 : Hid (RingOwn lo hi y11 (.agg #[.slice g1 n1 c1, .slice g2 n2 c2]) x) := OOy10.out.kept hb (by omega)
          have Nbry11 : Hid (y11.heap[w.heap.size]? = some (.cells #[.slice none 0 0, .slice none 0 0] 26 (0, 0))) := (hb.block _ (Array.getElem?_eq_some_iff.1 Nbry10.out).1 (by first | omega | (have := HQbr.out; omega))).trans Nbry10.out
          have Nbty11 : Hid (y11.heap[w.heap.size + 1]? = some (.cells #[.string ⟨#[]⟩, .int .i64 0, .string ⟨#[]⟩] 28 (0, 0))) := (hb.block _ (Array.getElem?_eq_some_iff.1 Nbty10.out).1 (by first | omega | (have := HQbt.out; omega))).trans Nbty10.out
          have Nbxy11 : Hid (y11.heap[hi]? = some (.cells #[.slice g1 n1 c1, .slice g2 n2 c2] 26 (0, 0))) := (hb.block _ (Array.getElem?_eq_some_iff.1 Nbxy10.out).1 (by first | omega | (have := HQbx.out; omega))).trans Nbxy10.out
          have Nq15_y11 : Hid (y11.heap[y0.heap.size]? = some (.cells #[.string ⟨#[110, 101, 119]⟩, .string ⟨#[110, 101, 119, 101, 114]⟩] 9 (0, 0))) := (hb.block _ (Array.getElem?_eq_some_iff.1 Nq15_y10.out).1 (by first | omega | (have := HQq15_.out; omega))).trans Nq15_y10.out
          have Nq6_y11 : Hid (y11.heap[y2.heap.size]? = some (.cells #[.string ⟨#[]⟩, .int .i64 0, .string ⟨#[]⟩] 28 (0, 0))) := (hb.block _ (Array.getElem?_eq_some_iff.1 Nq6_y10.out).1 (by first | omega | (have := HQq6_.out; omega))).trans Nq6_y10.out
          have RDy11 : Hid (RdAt y11 (w.heap.size + 1 + 1) (q + 1 + 1)) := hr
          clear hb
          refine hK.out _ _ ?_ (fun hHeld => ?_)
          · exact ⟨by show y11.cell? ⟨hi, 0, none⟩ = _; rw [cell_of_row _ _ 0 _ _ _ Nbxy11.out]; rfl, by show y11.cell? ⟨hi, 1, none⟩ = _; rw [cell_of_row _ _ 1 _ _ _ Nbxy11.out]; rfl⟩
          clear hK K
          try simp only [Act.put, List.setIfInBounds_toArray, List.set_cons_zero, List.set_cons_succ]
          refine tk 6 19 (.int .i64 (F5 : Int)) ?_
          simp only [Act.put, List.setIfInBounds_toArray, List.set_cons_zero, List.set_cons_succ]
          refine wpAnyH_ready (rs := [7]) (by kernel_rfl) (by simp) ?_
          refine AllReadyH.cons rfl (fun K hK => ?_) AllReadyH.nil
          go_simp
          refine (turn494 _ _ x s16 F5 OOy11.out.at HS16.out hF5b).mono ?_
          rintro e y12 ⟨rk, tf, ts, b, rfl, htk, hb⟩
          have HTK : Hid (rk.size ≤ 10 ∧ 0 ≤ tf ∧ tf ≤ 100) := htk
          clear htk
          have Zy12 : Hid (y11.heap.size ≤ y12.heap.size) := hb.size
          have Ky12 : Hid (Kept (w.heap.size + 1 + 1) w1 y12) := Ky11.out.trans (Kept.of_below hb)
          have OOy12 : Hid (RingOwn lo hi y12 (.agg #[.slice g1 n1 c1, .slice g2 n2 c2]) x) := OOy11.out.below hb
          have RDy12 : Hid (RdAt y12 (w.heap.size + 1 + 1) (q + 1 + 1)) := RDy11.out.below hb
          have Nbry12 : Hid (y12.heap[w.heap.size]? = some (.cells #[.slice none 0 0, .slice none 0 0] 26 (0, 0))) := (hb.block _ (Array.getElem?_eq_some_iff.1 Nbry11.out).1).trans Nbry11.out
          have Nbty12 : Hid (y12.heap[w.heap.size + 1]? = some (.cells #[.string ⟨#[]⟩, .int .i64 0, .string ⟨#[]⟩] 28 (0, 0))) := (hb.block _ (Array.getElem?_eq_some_iff.1 Nbty11.out).1).trans Nbty11.out
          have Nbxy12 : Hid (y12.heap[hi]? = some (.cells #[.slice g1 n1 c1, .slice g2 n2 c2] 26 (0, 0))) := (hb.block _ (Array.getElem?_eq_some_iff.1 Nbxy11.out).1).trans Nbxy11.out
          have Nq15_y12 : Hid (y12.heap[y0.heap.size]? = some (.cells #[.string ⟨#[110, 101, 119]⟩, .string ⟨#[110, 101, 119, 101, 114]⟩] 9 (0, 0))) := (hb.block _ (Array.getElem?_eq_some_iff.1 Nq15_y11.out).1).trans Nq15_y11.out
          have Nq6_y12 : Hid (y12.heap[y2.heap.size]? = some (.cells #[.string ⟨#[]⟩, .int .i64 0, .string ⟨#[]⟩] 28 (0, 0))) := (hb.block _ (Array.getElem?_eq_some_iff.1 Nq6_y11.out).1).trans Nq6_y11.out
          clear hb
          refine hK.out _ _ ?_ (fun hHeld => ?_)
          · exact ⟨by show y12.cell? ⟨hi, 0, none⟩ = _; rw [cell_of_row _ _ 0 _ _ _ Nbxy12.out]; rfl, by show y12.cell? ⟨hi, 1, none⟩ = _; rw [cell_of_row _ _ 1 _ _ _ Nbxy12.out]; rfl⟩
          clear hK K
          try simp only [Act.put, List.setIfInBounds_toArray, List.set_cons_zero, List.set_cons_succ]
          refine tk 8 12 (.tuple #[.agg #[.string rk, .int .i64 tf, .string ts], .bool b]) ?_
          simp only [Act.put, List.setIfInBounds_toArray, List.set_cons_zero, List.set_cons_succ]
          refine tk 9 21 (.agg #[.string rk, .int .i64 tf, .string ts]) ?_
          simp only [Act.put, List.setIfInBounds_toArray, List.set_cons_zero, List.set_cons_succ]
          refine tk 10 22 (.bool b) ?_
          simp only [Act.put, List.setIfInBounds_toArray, List.set_cons_zero, List.set_cons_succ]
          refine wpAnyH_ready (rs := [12]) (by kernel_rfl) (by simp) ?_
          refine AllReadyH.cons rfl (fun K hK => ?_) AllReadyH.nil
          refine step_store_row rfl 28 (.tmp 6) (.tmp 21) rfl (y2.heap.size) #[.string rk, .int .i64 tf, .string ts] rfl rfl 28 _ Nq6_y12.out (by kernel_rfl) rfl (by simp [Value.oneCell']) rfl ?_
          obtain ⟨y13, hx⟩ : ∃ X, y12.setRow (y2.heap.size) #[.string rk, .int .i64 tf, .string ts] = X := ⟨_, rfl⟩
          have Ky13 : Hid (Kept (w.heap.size + 1 + 1) w1 y13) := by show Kept _ _ _; rw [← hx]; exact Ky12.out.setRow HQq6_.out _
          have Zy13 : Hid (y13.heap.size = y12.heap.size) := by show _ = _; rw [← hx]; simp
          have zy0 := Zy0.out
          have zy1 := Zy1.out
          have zy2 := Zy2.out
          have zy10 := Zy10.out
          have zy11 := Zy11.out
          have zy12 := Zy12.out
          have OOy13 : Hid (RingOwn lo hi y13 (.agg #[.slice g1 n1 c1, .slice g2 n2 c2]) x) := by have h9 := OOy12.out; simp only [Hid] at h9 ⊢; rw [← hx]; exact h9.setRowT2 Nq6_y12.out _
          have RDy13 : Hid (RdAt y13 (w.heap.size + 1 + 1) (q + 1 + 1)) := by have h9 := RDy12.out; simp only [Hid] at h9 ⊢; rw [← hx]; exact h9.setRow (by have := HQq6_.out; omega) _
          have Nq6_y13 : Hid (y13.heap[y2.heap.size]? = some (.cells #[.string rk, .int .i64 tf, .string ts] 28 (0, 0))) := by show _ = _; rw [← hx]; exact setRow_heap _ _ _ _ _ _ Nq6_y12.out
          have Nbry13 : Hid (y13.heap[w.heap.size]? = some (.cells #[.slice none 0 0, .slice none 0 0] 26 (0, 0))) := by show _ = _; rw [← hx]; exact (setRow_other _ _ _ _ (by omega)).trans Nbry12.out
          have Nbty13 : Hid (y13.heap[w.heap.size + 1]? = some (.cells #[.string ⟨#[]⟩, .int .i64 0, .string ⟨#[]⟩] 28 (0, 0))) := by show _ = _; rw [← hx]; exact (setRow_other _ _ _ _ (by omega)).trans Nbty12.out
          have Nbxy13 : Hid (y13.heap[hi]? = some (.cells #[.slice g1 n1 c1, .slice g2 n2 c2] 26 (0, 0))) := by show _ = _; rw [← hx]; exact (setRow_other _ _ _ _ (by omega)).trans Nbxy12.out
          have Nq15_y13 : Hid (y13.heap[y0.heap.size]? = some (.cells #[.string ⟨#[110, 101, 119]⟩, .string ⟨#[110, 101, 119, 101, 114]⟩] 9 (0, 0))) := by show _ = _; rw [← hx]; exact (setRow_other _ _ _ _ (by omega)).trans Nq15_y12.out
          clear zy0
          clear zy1
          clear zy2
          clear zy10
          clear zy11
          clear zy12
          rw [hx]
          clear hx
          refine hK.out _ _ ?_ (fun hHeld => ?_)
          · exact ⟨by show y13.cell? ⟨hi, 0, none⟩ = _; rw [cell_of_row _ _ 0 _ _ _ Nbxy13.out]; rfl, by show y13.cell? ⟨hi, 1, none⟩ = _; rw [cell_of_row _ _ 1 _ _ _ Nbxy13.out]; rfl⟩
          clear hK K
          try simp only [Act.put, List.setIfInBounds_toArray, List.set_cons_zero, List.set_cons_succ]
          refine tk 13 7 (.bool b) ?_
          simp only [Act.put, List.setIfInBounds_toArray, List.set_cons_zero, List.set_cons_succ]
          refine wpAnyH_done (by kernel_rfl) ?_ _
          go_wp2
          go_meet
          case rel =>
            have zy0 := Zy0.out
            have zy1 := Zy1.out
            have zy2 := Zy2.out
            have zy10 := Zy10.out
            have zy11 := Zy11.out
            have zy12 := Zy12.out
            have zy13 := Zy13.out
            have hk9 := HQq6_.out
            exact ⟨_, _, _, _, _, rfl, Nq6_y13.out, HTK.out, by omega, by omega, Nbry13.out, Nbty13.out, Nbxy13.out, OOy13.out, RDy13.out, by omega, Ky13.out⟩
      · skip
        go_simp
        have NA : Hid ((y1.alloc (.cells #[.string ⟨#[]⟩, .int .i64 0, .string ⟨#[]⟩] 28)).heap[y1.heap.size]? = some (.cells #[.string ⟨#[]⟩, .int .i64 0, .string ⟨#[]⟩] 28 (0, 0))) := heap_alloc_last _ _
        obtain ⟨y14, hx⟩ : ∃ X, y1.alloc (.cells #[.string ⟨#[]⟩, .int .i64 0, .string ⟨#[]⟩] 28) = X := ⟨_, rfl⟩
        have hb : Below y1.heap.size y1 y14 := by rw [← hx]; exact (Below.refl _ _).alloc (Nat.le_refl _) _
        have Zy14 : Hid (y1.heap.size < y14.heap.size) := by show _ < _; rw [← hx]; simp
        have Nq6_y14 : Hid (y14.heap[y1.heap.size]? = some (.cells #[.string ⟨#[]⟩, .int .i64 0, .string ⟨#[]⟩] 28 (0, 0))) := by show _ = _; rw [← hx]; exact NA.out
        have Ky14 : Hid (Kept (w.heap.size + 1 + 1) w1 y14) := Ky1.out.trans (Kept.of_below hb)
        have HQq6_ : Hid (w1.heap.size ≤ y1.heap.size) := Ky1.out.size
        have RDy14 : Hid (RdAt y14 (w.heap.size + 1 + 1) q) := RDy1.out.below hb
        have OOy14 : Hid (RingOwn lo hi y14 (.agg #[.slice g1 n1 c1, .slice g2 n2 c2]) x) := OOy1.out.below hb
        have Nbry14 : Hid (y14.heap[w.heap.size]? = some (.cells #[.slice none 0 0, .slice none 0 0] 26 (0, 0))) := (hb.block _ (Array.getElem?_eq_some_iff.1 Nbry1.out).1).trans Nbry1.out
        have Nbty14 : Hid (y14.heap[w.heap.size + 1]? = some (.cells #[.string ⟨#[]⟩, .int .i64 0, .string ⟨#[]⟩] 28 (0, 0))) := (hb.block _ (Array.getElem?_eq_some_iff.1 Nbty1.out).1).trans Nbty1.out
        have Nbxy14 : Hid (y14.heap[hi]? = some (.cells #[.slice g1 n1 c1, .slice g2 n2 c2] 26 (0, 0))) := (hb.block _ (Array.getElem?_eq_some_iff.1 Nbxy1.out).1).trans Nbxy1.out
        have Nq15_y14 : Hid (y14.heap[y0.heap.size]? = some (.cells #[.string ⟨#[110, 101, 119]⟩, .string ⟨#[110, 101, 119, 101, 114]⟩] 9 (0, 0))) := (hb.block _ (Array.getElem?_eq_some_iff.1 Nq15_y1.out).1).trans Nq15_y1.out
        rw [hx]
        clear hx NA hb
        refine hK.out _ _ ?_ (fun hHeld => ?_)
        · exact ⟨by show y14.cell? ⟨hi, 0, none⟩ = _; rw [cell_of_row _ _ 0 _ _ _ Nbxy14.out]; rfl, by show y14.cell? ⟨hi, 1, none⟩ = _; rw [cell_of_row _ _ 1 _ _ _ Nbxy14.out]; rfl⟩
        clear hK K
        try simp only [Act.put, List.setIfInBounds_toArray, List.set_cons_zero, List.set_cons_succ]
        refine wpAnyH_ready (rs := [3]) (by kernel_rfl) (by simp) ?_
        refine AllReadyH.cons rfl (fun K hK => ?_) AllReadyH.nil
        go_simp
        refine (of_any (fun s => s.size ≤ 10) _ (w.heap.size + 1 + 1) (q) (y0.heap.size) 2 2 RDy14.out (by omega) (by omega) (by omega) (fun i hi => by match i, hi with | 0, _ => exact ⟨_, by rw [cell_of_row _ _ 0 _ _ _ Nq15_y14.out]; rfl, by decide⟩ | 1, _ => exact ⟨_, by rw [cell_of_row _ _ 1 _ _ _ Nq15_y14.out]; rfl, by decide⟩) (by have := HQq15_.out; omega)).mono ?_
        rintro e y15 ⟨s16, rfl, hs, hr, hb⟩
        have HS16 : Hid (s16.size ≤ 10) := hs
        clear hs
        have Zy15 : Hid (y14.heap.size ≤ y15.heap.size) := hb.size
        have Ky15 : Hid (Kept (w.heap.size + 1 + 1) w1 y15) := Ky14.out.trans hb
        have OOy15 : Hid (RingOwn lo hi y15 (.agg #[.slice g1 n1 c1, .slice g2 n2 c2]) x) := OOy14.out.kept hb (by omega)
        have Nbry15 : Hid (y15.heap[w.heap.size]? = some (.cells #[.slice none 0 0, .slice none 0 0] 26 (0, 0))) := (hb.block _ (Array.getElem?_eq_some_iff.1 Nbry14.out).1 (by first | omega | (have := HQbr.out; omega))).trans Nbry14.out
        have Nbty15 : Hid (y15.heap[w.heap.size + 1]? = some (.cells #[.string ⟨#[]⟩, .int .i64 0, .string ⟨#[]⟩] 28 (0, 0))) := (hb.block _ (Array.getElem?_eq_some_iff.1 Nbty14.out).1 (by first | omega | (have := HQbt.out; omega))).trans Nbty14.out
        have Nbxy15 : Hid (y15.heap[hi]? = some (.cells #[.slice g1 n1 c1, .slice g2 n2 c2] 26 (0, 0))) := (hb.block _ (Array.getElem?_eq_some_iff.1 Nbxy14.out).1 (by first | omega | (have := HQbx.out; omega))).trans Nbxy14.out
        have Nq15_y15 : Hid (y15.heap[y0.heap.size]? = some (.cells #[.string ⟨#[110, 101, 119]⟩, .string ⟨#[110, 101, 119, 101, 114]⟩] 9 (0, 0))) := (hb.block _ (Array.getElem?_eq_some_iff.1 Nq15_y14.out).1 (by first | omega | (have := HQq15_.out; omega))).trans Nq15_y14.out
        have Nq6_y15 : Hid (y15.heap[y1.heap.size]? = some (.cells #[.string ⟨#[]⟩, .int .i64 0, .string ⟨#[]⟩] 28 (0, 0))) := (hb.block _ (Array.getElem?_eq_some_iff.1 Nq6_y14.out).1 (by first | omega | (have := HQq6_.out; omega))).trans Nq6_y14.out
        have RDy15 : Hid (RdAt y15 (w.heap.size + 1 + 1) (q + 1)) := hr
        clear hb
        refine hK.out _ _ ?_ (fun hHeld => ?_)
        · exact ⟨by show y15.cell? ⟨hi, 0, none⟩ = _; rw [cell_of_row _ _ 0 _ _ _ Nbxy15.out]; rfl, by show y15.cell? ⟨hi, 1, none⟩ = _; rw [cell_of_row _ _ 1 _ _ _ Nbxy15.out]; rfl⟩
        clear hK K
        try simp only [Act.put, List.setIfInBounds_toArray, List.set_cons_zero, List.set_cons_succ]
        refine wpAnyH_ready (rs := [5]) (by kernel_rfl) (by simp) ?_
        refine AllReadyH.cons rfl (fun K hK => ?_) AllReadyH.nil
        go_simp
        refine (pick_any _ (w.heap.size + 1 + 1) (q + 1) 9 RDy15.out (by omega) (by omega)).mono ?_
        rintro e y16 ⟨v5, rfl, hv0, hv1, hr, hb⟩
        obtain ⟨V5, rfl⟩ : ∃ V : Nat, v5 = (V : Int) := ⟨v5.toNat, by omega⟩
        have hV5 : V5 < 9 := by have := hv1 (by omega); omega
        obtain ⟨F5, hF5⟩ : ∃ F : Nat, 20 + V5 = F := ⟨_, rfl⟩
        have qf : IntKind.i64.wrap (20 + (V5 : Int)) = (F5 : Int) := by rw [IntWalk.i64_in _ (by omega)]; omega
        have hF5b : F5 ≤ 100 := by omega
        clear hv0 hv1 hF5
        have Zy16 : Hid (y15.heap.size ≤ y16.heap.size) := hb.size
        have Ky16 : Hid (Kept (w.heap.size + 1 + 1) w1 y16) := Ky15.out.trans hb
        have OOy16 : Hid (RingOwn lo hi y16 (.agg #[.slice g1 n1 c1, .slice g2 n2 c2]) x) := OOy15.out.kept hb (by omega)
        have Nbry16 : Hid (y16.heap[w.heap.size]? = some (.cells #[.slice none 0 0, .slice none 0 0] 26 (0, 0))) := (hb.block _ (Array.getElem?_eq_some_iff.1 Nbry15.out).1 (by first | omega | (have := HQbr.out; omega))).trans Nbry15.out
        have Nbty16 : Hid (y16.heap[w.heap.size + 1]? = some (.cells #[.string ⟨#[]⟩, .int .i64 0, .string ⟨#[]⟩] 28 (0, 0))) := (hb.block _ (Array.getElem?_eq_some_iff.1 Nbty15.out).1 (by first | omega | (have := HQbt.out; omega))).trans Nbty15.out
        have Nbxy16 : Hid (y16.heap[hi]? = some (.cells #[.slice g1 n1 c1, .slice g2 n2 c2] 26 (0, 0))) := (hb.block _ (Array.getElem?_eq_some_iff.1 Nbxy15.out).1 (by first | omega | (have := HQbx.out; omega))).trans Nbxy15.out
        have Nq15_y16 : Hid (y16.heap[y0.heap.size]? = some (.cells #[.string ⟨#[110, 101, 119]⟩, .string ⟨#[110, 101, 119, 101, 114]⟩] 9 (0, 0))) := (hb.block _ (Array.getElem?_eq_some_iff.1 Nq15_y15.out).1 (by first | omega | (have := HQq15_.out; omega))).trans Nq15_y15.out
        have Nq6_y16 : Hid (y16.heap[y1.heap.size]? = some (.cells #[.string ⟨#[]⟩, .int .i64 0, .string ⟨#[]⟩] 28 (0, 0))) := (hb.block _ (Array.getElem?_eq_some_iff.1 Nq6_y15.out).1 (by first | omega | (have := HQq6_.out; omega))).trans Nq6_y15.out
        have RDy16 : Hid (RdAt y16 (w.heap.size + 1 + 1) (q + 1 + 1)) := hr
        clear hb
        refine hK.out _ _ ?_ (fun hHeld => ?_)
        · exact ⟨by show y16.cell? ⟨hi, 0, none⟩ = _; rw [cell_of_row _ _ 0 _ _ _ Nbxy16.out]; rfl, by show y16.cell? ⟨hi, 1, none⟩ = _; rw [cell_of_row _ _ 1 _ _ _ Nbxy16.out]; rfl⟩
        clear hK K
        try simp only [Act.put, List.setIfInBounds_toArray, List.set_cons_zero, List.set_cons_succ]
        refine tk 6 19 (.int .i64 (F5 : Int)) ?_
        simp only [Act.put, List.setIfInBounds_toArray, List.set_cons_zero, List.set_cons_succ]
        refine wpAnyH_ready (rs := [7]) (by kernel_rfl) (by simp) ?_
        refine AllReadyH.cons rfl (fun K hK => ?_) AllReadyH.nil
        go_simp
        refine (turn494 _ _ x s16 F5 OOy16.out.at HS16.out hF5b).mono ?_
        rintro e y17 ⟨rk, tf, ts, b, rfl, htk, hb⟩
        have HTK : Hid (rk.size ≤ 10 ∧ 0 ≤ tf ∧ tf ≤ 100) := htk
        clear htk
        have Zy17 : Hid (y16.heap.size ≤ y17.heap.size) := hb.size
        have Ky17 : Hid (Kept (w.heap.size + 1 + 1) w1 y17) := Ky16.out.trans (Kept.of_below hb)
        have OOy17 : Hid (RingOwn lo hi y17 (.agg #[.slice g1 n1 c1, .slice g2 n2 c2]) x) := OOy16.out.below hb
        have RDy17 : Hid (RdAt y17 (w.heap.size + 1 + 1) (q + 1 + 1)) := RDy16.out.below hb
        have Nbry17 : Hid (y17.heap[w.heap.size]? = some (.cells #[.slice none 0 0, .slice none 0 0] 26 (0, 0))) := (hb.block _ (Array.getElem?_eq_some_iff.1 Nbry16.out).1).trans Nbry16.out
        have Nbty17 : Hid (y17.heap[w.heap.size + 1]? = some (.cells #[.string ⟨#[]⟩, .int .i64 0, .string ⟨#[]⟩] 28 (0, 0))) := (hb.block _ (Array.getElem?_eq_some_iff.1 Nbty16.out).1).trans Nbty16.out
        have Nbxy17 : Hid (y17.heap[hi]? = some (.cells #[.slice g1 n1 c1, .slice g2 n2 c2] 26 (0, 0))) := (hb.block _ (Array.getElem?_eq_some_iff.1 Nbxy16.out).1).trans Nbxy16.out
        have Nq15_y17 : Hid (y17.heap[y0.heap.size]? = some (.cells #[.string ⟨#[110, 101, 119]⟩, .string ⟨#[110, 101, 119, 101, 114]⟩] 9 (0, 0))) := (hb.block _ (Array.getElem?_eq_some_iff.1 Nq15_y16.out).1).trans Nq15_y16.out
        have Nq6_y17 : Hid (y17.heap[y1.heap.size]? = some (.cells #[.string ⟨#[]⟩, .int .i64 0, .string ⟨#[]⟩] 28 (0, 0))) := (hb.block _ (Array.getElem?_eq_some_iff.1 Nq6_y16.out).1).trans Nq6_y16.out
        clear hb
        refine hK.out _ _ ?_ (fun hHeld => ?_)
        · exact ⟨by show y17.cell? ⟨hi, 0, none⟩ = _; rw [cell_of_row _ _ 0 _ _ _ Nbxy17.out]; rfl, by show y17.cell? ⟨hi, 1, none⟩ = _; rw [cell_of_row _ _ 1 _ _ _ Nbxy17.out]; rfl⟩
        clear hK K
        try simp only [Act.put, List.setIfInBounds_toArray, List.set_cons_zero, List.set_cons_succ]
        refine tk 8 12 (.tuple #[.agg #[.string rk, .int .i64 tf, .string ts], .bool b]) ?_
        simp only [Act.put, List.setIfInBounds_toArray, List.set_cons_zero, List.set_cons_succ]
        refine tk 9 21 (.agg #[.string rk, .int .i64 tf, .string ts]) ?_
        simp only [Act.put, List.setIfInBounds_toArray, List.set_cons_zero, List.set_cons_succ]
        refine tk 10 22 (.bool b) ?_
        simp only [Act.put, List.setIfInBounds_toArray, List.set_cons_zero, List.set_cons_succ]
        refine wpAnyH_ready (rs := [12]) (by kernel_rfl) (by simp) ?_
        refine AllReadyH.cons rfl (fun K hK => ?_) AllReadyH.nil
        refine step_store_row rfl 28 (.tmp 6) (.tmp 21) rfl (y1.heap.size) #[.string rk, .int .i64 tf, .string ts] rfl rfl 28 _ Nq6_y17.out (by kernel_rfl) rfl (by simp [Value.oneCell']) rfl ?_
        obtain ⟨y18, hx⟩ : ∃ X, y17.setRow (y1.heap.size) #[.string rk, .int .i64 tf, .string ts] = X := ⟨_, rfl⟩
        have Ky18 : Hid (Kept (w.heap.size + 1 + 1) w1 y18) := by show Kept _ _ _; rw [← hx]; exact Ky17.out.setRow HQq6_.out _
        have Zy18 : Hid (y18.heap.size = y17.heap.size) := by show _ = _; rw [← hx]; simp
        have zy0 := Zy0.out
        have zy1 := Zy1.out
        have zy14 := Zy14.out
        have zy15 := Zy15.out
        have zy16 := Zy16.out
        have zy17 := Zy17.out
        have OOy18 : Hid (RingOwn lo hi y18 (.agg #[.slice g1 n1 c1, .slice g2 n2 c2]) x) := by have h9 := OOy17.out; simp only [Hid] at h9 ⊢; rw [← hx]; exact h9.setRowT2 Nq6_y17.out _
        have RDy18 : Hid (RdAt y18 (w.heap.size + 1 + 1) (q + 1 + 1)) := by have h9 := RDy17.out; simp only [Hid] at h9 ⊢; rw [← hx]; exact h9.setRow (by have := HQq6_.out; omega) _
        have Nq6_y18 : Hid (y18.heap[y1.heap.size]? = some (.cells #[.string rk, .int .i64 tf, .string ts] 28 (0, 0))) := by show _ = _; rw [← hx]; exact setRow_heap _ _ _ _ _ _ Nq6_y17.out
        have Nbry18 : Hid (y18.heap[w.heap.size]? = some (.cells #[.slice none 0 0, .slice none 0 0] 26 (0, 0))) := by show _ = _; rw [← hx]; exact (setRow_other _ _ _ _ (by omega)).trans Nbry17.out
        have Nbty18 : Hid (y18.heap[w.heap.size + 1]? = some (.cells #[.string ⟨#[]⟩, .int .i64 0, .string ⟨#[]⟩] 28 (0, 0))) := by show _ = _; rw [← hx]; exact (setRow_other _ _ _ _ (by omega)).trans Nbty17.out
        have Nbxy18 : Hid (y18.heap[hi]? = some (.cells #[.slice g1 n1 c1, .slice g2 n2 c2] 26 (0, 0))) := by show _ = _; rw [← hx]; exact (setRow_other _ _ _ _ (by omega)).trans Nbxy17.out
        have Nq15_y18 : Hid (y18.heap[y0.heap.size]? = some (.cells #[.string ⟨#[110, 101, 119]⟩, .string ⟨#[110, 101, 119, 101, 114]⟩] 9 (0, 0))) := by show _ = _; rw [← hx]; exact (setRow_other _ _ _ _ (by omega)).trans Nq15_y17.out
        clear zy0
        clear zy1
        clear zy14
        clear zy15
        clear zy16
        clear zy17
        rw [hx]
        clear hx
        refine hK.out _ _ ?_ (fun hHeld => ?_)
        · exact ⟨by show y18.cell? ⟨hi, 0, none⟩ = _; rw [cell_of_row _ _ 0 _ _ _ Nbxy18.out]; rfl, by show y18.cell? ⟨hi, 1, none⟩ = _; rw [cell_of_row _ _ 1 _ _ _ Nbxy18.out]; rfl⟩
        clear hK K
        try simp only [Act.put, List.setIfInBounds_toArray, List.set_cons_zero, List.set_cons_succ]
        refine tk 13 7 (.bool b) ?_
        simp only [Act.put, List.setIfInBounds_toArray, List.set_cons_zero, List.set_cons_succ]
        refine wpAnyH_done (by kernel_rfl) ?_ _
        go_wp2
        go_meet
        case rel =>
          have zy0 := Zy0.out
          have zy1 := Zy1.out
          have zy14 := Zy14.out
          have zy15 := Zy15.out
          have zy16 := Zy16.out
          have zy17 := Zy17.out
          have zy18 := Zy18.out
          have hk9 := HQq6_.out
          exact ⟨_, _, _, _, _, rfl, Nq6_y18.out, HTK.out, by omega, by omega, Nbry18.out, Nbty18.out, Nbxy18.out, OOy18.out, RDy18.out, by omega, Ky18.out⟩
    · skip
      go_simp
      have NA : Hid ((y0.alloc (.cells #[.string ⟨#[]⟩, .int .i64 0, .string ⟨#[]⟩] 28)).heap[y0.heap.size]? = some (.cells #[.string ⟨#[]⟩, .int .i64 0, .string ⟨#[]⟩] 28 (0, 0))) := heap_alloc_last _ _
      obtain ⟨y19, hx⟩ : ∃ X, y0.alloc (.cells #[.string ⟨#[]⟩, .int .i64 0, .string ⟨#[]⟩] 28) = X := ⟨_, rfl⟩
      have hb : Below y0.heap.size y0 y19 := by rw [← hx]; exact (Below.refl _ _).alloc (Nat.le_refl _) _
      have Zy19 : Hid (y0.heap.size < y19.heap.size) := by show _ < _; rw [← hx]; simp
      have Nq6_y19 : Hid (y19.heap[y0.heap.size]? = some (.cells #[.string ⟨#[]⟩, .int .i64 0, .string ⟨#[]⟩] 28 (0, 0))) := by show _ = _; rw [← hx]; exact NA.out
      have Ky19 : Hid (Kept (w.heap.size + 1 + 1) w1 y19) := Ky0.out.trans (Kept.of_below hb)
      have HQq6_ : Hid (w1.heap.size ≤ y0.heap.size) := Ky0.out.size
      have RDy19 : Hid (RdAt y19 (w.heap.size + 1 + 1) q) := RDy0.out.below hb
      have OOy19 : Hid (RingOwn lo hi y19 (.agg #[.slice g1 n1 c1, .slice g2 n2 c2]) x) := OOy0.out.below hb
      have Nbry19 : Hid (y19.heap[w.heap.size]? = some (.cells #[.slice none 0 0, .slice none 0 0] 26 (0, 0))) := (hb.block _ (Array.getElem?_eq_some_iff.1 Nbry0.out).1).trans Nbry0.out
      have Nbty19 : Hid (y19.heap[w.heap.size + 1]? = some (.cells #[.string ⟨#[]⟩, .int .i64 0, .string ⟨#[]⟩] 28 (0, 0))) := (hb.block _ (Array.getElem?_eq_some_iff.1 Nbty0.out).1).trans Nbty0.out
      have Nbxy19 : Hid (y19.heap[hi]? = some (.cells #[.slice g1 n1 c1, .slice g2 n2 c2] 26 (0, 0))) := (hb.block _ (Array.getElem?_eq_some_iff.1 Nbxy0.out).1).trans Nbxy0.out
      rw [hx]
      clear hx NA hb
      refine hK.out _ _ ?_ (fun hHeld => ?_)
      · exact ⟨by show y19.cell? ⟨hi, 0, none⟩ = _; rw [cell_of_row _ _ 0 _ _ _ Nbxy19.out]; rfl, by show y19.cell? ⟨hi, 1, none⟩ = _; rw [cell_of_row _ _ 1 _ _ _ Nbxy19.out]; rfl⟩
      clear hK K
      try simp only [Act.put, List.setIfInBounds_toArray, List.set_cons_zero, List.set_cons_succ]
      refine wpAnyH_ready (rs := [2]) (by kernel_rfl) (by simp) ?_
      refine AllReadyH.cons rfl (fun K hK => ?_) AllReadyH.nil
      go_simp
      have NA : Hid ((y19.alloc (.cells #[.string ⟨#[110, 101, 119]⟩, .string ⟨#[110, 101, 119, 101, 114]⟩] 9)).heap[y19.heap.size]? = some (.cells #[.string ⟨#[110, 101, 119]⟩, .string ⟨#[110, 101, 119, 101, 114]⟩] 9 (0, 0))) := heap_alloc_last _ _
      obtain ⟨y20, hx⟩ : ∃ X, y19.alloc (.cells #[.string ⟨#[110, 101, 119]⟩, .string ⟨#[110, 101, 119, 101, 114]⟩] 9) = X := ⟨_, rfl⟩
      have hb : Below y19.heap.size y19 y20 := by rw [← hx]; exact (Below.refl _ _).alloc (Nat.le_refl _) _
      have Zy20 : Hid (y19.heap.size < y20.heap.size) := by show _ < _; rw [← hx]; simp
      have Nq15_y20 : Hid (y20.heap[y19.heap.size]? = some (.cells #[.string ⟨#[110, 101, 119]⟩, .string ⟨#[110, 101, 119, 101, 114]⟩] 9 (0, 0))) := by show _ = _; rw [← hx]; exact NA.out
      have Ky20 : Hid (Kept (w.heap.size + 1 + 1) w1 y20) := Ky19.out.trans (Kept.of_below hb)
      have HQq15_ : Hid (w1.heap.size ≤ y19.heap.size) := Ky19.out.size
      have RDy20 : Hid (RdAt y20 (w.heap.size + 1 + 1) q) := RDy19.out.below hb
      have OOy20 : Hid (RingOwn lo hi y20 (.agg #[.slice g1 n1 c1, .slice g2 n2 c2]) x) := OOy19.out.below hb
      have Nbry20 : Hid (y20.heap[w.heap.size]? = some (.cells #[.slice none 0 0, .slice none 0 0] 26 (0, 0))) := (hb.block _ (Array.getElem?_eq_some_iff.1 Nbry19.out).1).trans Nbry19.out
      have Nbty20 : Hid (y20.heap[w.heap.size + 1]? = some (.cells #[.string ⟨#[]⟩, .int .i64 0, .string ⟨#[]⟩] 28 (0, 0))) := (hb.block _ (Array.getElem?_eq_some_iff.1 Nbty19.out).1).trans Nbty19.out
      have Nbxy20 : Hid (y20.heap[hi]? = some (.cells #[.slice g1 n1 c1, .slice g2 n2 c2] 26 (0, 0))) := (hb.block _ (Array.getElem?_eq_some_iff.1 Nbxy19.out).1).trans Nbxy19.out
      have Nq6_y20 : Hid (y20.heap[y0.heap.size]? = some (.cells #[.string ⟨#[]⟩, .int .i64 0, .string ⟨#[]⟩] 28 (0, 0))) := (hb.block _ (Array.getElem?_eq_some_iff.1 Nq6_y19.out).1).trans Nq6_y19.out
      rw [hx]
      clear hx NA hb
      refine hK.out _ _ ?_ (fun hHeld => ?_)
      · exact ⟨by show y20.cell? ⟨hi, 0, none⟩ = _; rw [cell_of_row _ _ 0 _ _ _ Nbxy20.out]; rfl, by show y20.cell? ⟨hi, 1, none⟩ = _; rw [cell_of_row _ _ 1 _ _ _ Nbxy20.out]; rfl⟩
      clear hK K
      try simp only [Act.put, List.setIfInBounds_toArray, List.set_cons_zero, List.set_cons_succ]
      refine wpAnyH_ready (rs := [3]) (by kernel_rfl) (by simp) ?_
      refine AllReadyH.cons rfl (fun K hK => ?_) AllReadyH.nil
      go_simp
      refine (of_any (fun s => s.size ≤ 10) _ (w.heap.size + 1 + 1) (q) (y19.heap.size) 2 2 RDy20.out (by omega) (by omega) (by omega) (fun i hi => by match i, hi with | 0, _ => exact ⟨_, by rw [cell_of_row _ _ 0 _ _ _ Nq15_y20.out]; rfl, by decide⟩ | 1, _ => exact ⟨_, by rw [cell_of_row _ _ 1 _ _ _ Nq15_y20.out]; rfl, by decide⟩) (by have := HQq15_.out; omega)).mono ?_
      rintro e y21 ⟨s16, rfl, hs, hr, hb⟩
      have HS16 : Hid (s16.size ≤ 10) := hs
      clear hs
      have Zy21 : Hid (y20.heap.size ≤ y21.heap.size) := hb.size
      have Ky21 : Hid (Kept (w.heap.size + 1 + 1) w1 y21) := Ky20.out.trans hb
      have OOy21 : Hid (RingOwn lo hi y21 (.agg #[.slice g1 n1 c1, .slice g2 n2 c2]) x) := OOy20.out.kept hb (by omega)
      have Nbry21 : Hid (y21.heap[w.heap.size]? = some (.cells #[.slice none 0 0, .slice none 0 0] 26 (0, 0))) := (hb.block _ (Array.getElem?_eq_some_iff.1 Nbry20.out).1 (by first | omega | (have := HQbr.out; omega))).trans Nbry20.out
      have Nbty21 : Hid (y21.heap[w.heap.size + 1]? = some (.cells #[.string ⟨#[]⟩, .int .i64 0, .string ⟨#[]⟩] 28 (0, 0))) := (hb.block _ (Array.getElem?_eq_some_iff.1 Nbty20.out).1 (by first | omega | (have := HQbt.out; omega))).trans Nbty20.out
      have Nbxy21 : Hid (y21.heap[hi]? = some (.cells #[.slice g1 n1 c1, .slice g2 n2 c2] 26 (0, 0))) := (hb.block _ (Array.getElem?_eq_some_iff.1 Nbxy20.out).1 (by first | omega | (have := HQbx.out; omega))).trans Nbxy20.out
      have Nq6_y21 : Hid (y21.heap[y0.heap.size]? = some (.cells #[.string ⟨#[]⟩, .int .i64 0, .string ⟨#[]⟩] 28 (0, 0))) := (hb.block _ (Array.getElem?_eq_some_iff.1 Nq6_y20.out).1 (by first | omega | (have := HQq6_.out; omega))).trans Nq6_y20.out
      have Nq15_y21 : Hid (y21.heap[y19.heap.size]? = some (.cells #[.string ⟨#[110, 101, 119]⟩, .string ⟨#[110, 101, 119, 101, 114]⟩] 9 (0, 0))) := (hb.block _ (Array.getElem?_eq_some_iff.1 Nq15_y20.out).1 (by first | omega | (have := HQq15_.out; omega))).trans Nq15_y20.out
      have RDy21 : Hid (RdAt y21 (w.heap.size + 1 + 1) (q + 1)) := hr
      clear hb
      refine hK.out _ _ ?_ (fun hHeld => ?_)
      · exact ⟨by show y21.cell? ⟨hi, 0, none⟩ = _; rw [cell_of_row _ _ 0 _ _ _ Nbxy21.out]; rfl, by show y21.cell? ⟨hi, 1, none⟩ = _; rw [cell_of_row _ _ 1 _ _ _ Nbxy21.out]; rfl⟩
      clear hK K
      try simp only [Act.put, List.setIfInBounds_toArray, List.set_cons_zero, List.set_cons_succ]
      refine wpAnyH_ready (rs := [5]) (by kernel_rfl) (by simp) ?_
      refine AllReadyH.cons rfl (fun K hK => ?_) AllReadyH.nil
      go_simp
      refine (pick_any _ (w.heap.size + 1 + 1) (q + 1) 9 RDy21.out (by omega) (by omega)).mono ?_
      rintro e y22 ⟨v5, rfl, hv0, hv1, hr, hb⟩
      obtain ⟨V5, rfl⟩ : ∃ V : Nat, v5 = (V : Int) := ⟨v5.toNat, by omega⟩
      have hV5 : V5 < 9 := by have := hv1 (by omega); omega
      obtain ⟨F5, hF5⟩ : ∃ F : Nat, 20 + V5 = F := ⟨_, rfl⟩
      have qf : IntKind.i64.wrap (20 + (V5 : Int)) = (F5 : Int) := by rw [IntWalk.i64_in _ (by omega)]; omega
      have hF5b : F5 ≤ 100 := by omega
      clear hv0 hv1 hF5
      have Zy22 : Hid (y21.heap.size ≤ y22.heap.size) := hb.size
      have Ky22 : Hid (Kept (w.heap.size + 1 + 1) w1 y22) := Ky21.out.trans hb
      have OOy22 : Hid (RingOwn lo hi y22 (.agg #[.slice g1 n1 c1, .slice g2 n2 c2]) x) := OOy21.out.kept hb (by omega)
      have Nbry22 : Hid (y22.heap[w.heap.size]? = some (.cells #[.slice none 0 0, .slice none 0 0] 26 (0, 0))) := (hb.block _ (Array.getElem?_eq_some_iff.1 Nbry21.out).1 (by first | omega | (have := HQbr.out; omega))).trans Nbry21.out
      have Nbty22 : Hid (y22.heap[w.heap.size + 1]? = some (.cells #[.string ⟨#[]⟩, .int .i64 0, .string ⟨#[]⟩] 28 (0, 0))) := (hb.block _ (Array.getElem?_eq_some_iff.1 Nbty21.out).1 (by first | omega | (have := HQbt.out; omega))).trans Nbty21.out
      have Nbxy22 : Hid (y22.heap[hi]? = some (.cells #[.slice g1 n1 c1, .slice g2 n2 c2] 26 (0, 0))) := (hb.block _ (Array.getElem?_eq_some_iff.1 Nbxy21.out).1 (by first | omega | (have := HQbx.out; omega))).trans Nbxy21.out
      have Nq6_y22 : Hid (y22.heap[y0.heap.size]? = some (.cells #[.string ⟨#[]⟩, .int .i64 0, .string ⟨#[]⟩] 28 (0, 0))) := (hb.block _ (Array.getElem?_eq_some_iff.1 Nq6_y21.out).1 (by first | omega | (have := HQq6_.out; omega))).trans Nq6_y21.out
      have Nq15_y22 : Hid (y22.heap[y19.heap.size]? = some (.cells #[.string ⟨#[110, 101, 119]⟩, .string ⟨#[110, 101, 119, 101, 114]⟩] 9 (0, 0))) := (hb.block _ (Array.getElem?_eq_some_iff.1 Nq15_y21.out).1 (by first | omega | (have := HQq15_.out; omega))).trans Nq15_y21.out
      have RDy22 : Hid (RdAt y22 (w.heap.size + 1 + 1) (q + 1 + 1)) := hr
      clear hb
      refine hK.out _ _ ?_ (fun hHeld => ?_)
      · exact ⟨by show y22.cell? ⟨hi, 0, none⟩ = _; rw [cell_of_row _ _ 0 _ _ _ Nbxy22.out]; rfl, by show y22.cell? ⟨hi, 1, none⟩ = _; rw [cell_of_row _ _ 1 _ _ _ Nbxy22.out]; rfl⟩
      clear hK K
      try simp only [Act.put, List.setIfInBounds_toArray, List.set_cons_zero, List.set_cons_succ]
      refine tk 6 19 (.int .i64 (F5 : Int)) ?_
      simp only [Act.put, List.setIfInBounds_toArray, List.set_cons_zero, List.set_cons_succ]
      refine wpAnyH_ready (rs := [7]) (by kernel_rfl) (by simp) ?_
      refine AllReadyH.cons rfl (fun K hK => ?_) AllReadyH.nil
      go_simp
      refine (turn494 _ _ x s16 F5 OOy22.out.at HS16.out hF5b).mono ?_
      rintro e y23 ⟨rk, tf, ts, b, rfl, htk, hb⟩
      have HTK : Hid (rk.size ≤ 10 ∧ 0 ≤ tf ∧ tf ≤ 100) := htk
      clear htk
      have Zy23 : Hid (y22.heap.size ≤ y23.heap.size) := hb.size
      have Ky23 : Hid (Kept (w.heap.size + 1 + 1) w1 y23) := Ky22.out.trans (Kept.of_below hb)
      have OOy23 : Hid (RingOwn lo hi y23 (.agg #[.slice g1 n1 c1, .slice g2 n2 c2]) x) := OOy22.out.below hb
      have RDy23 : Hid (RdAt y23 (w.heap.size + 1 + 1) (q + 1 + 1)) := RDy22.out.below hb
      have Nbry23 : Hid (y23.heap[w.heap.size]? = some (.cells #[.slice none 0 0, .slice none 0 0] 26 (0, 0))) := (hb.block _ (Array.getElem?_eq_some_iff.1 Nbry22.out).1).trans Nbry22.out
      have Nbty23 : Hid (y23.heap[w.heap.size + 1]? = some (.cells #[.string ⟨#[]⟩, .int .i64 0, .string ⟨#[]⟩] 28 (0, 0))) := (hb.block _ (Array.getElem?_eq_some_iff.1 Nbty22.out).1).trans Nbty22.out
      have Nbxy23 : Hid (y23.heap[hi]? = some (.cells #[.slice g1 n1 c1, .slice g2 n2 c2] 26 (0, 0))) := (hb.block _ (Array.getElem?_eq_some_iff.1 Nbxy22.out).1).trans Nbxy22.out
      have Nq6_y23 : Hid (y23.heap[y0.heap.size]? = some (.cells #[.string ⟨#[]⟩, .int .i64 0, .string ⟨#[]⟩] 28 (0, 0))) := (hb.block _ (Array.getElem?_eq_some_iff.1 Nq6_y22.out).1).trans Nq6_y22.out
      have Nq15_y23 : Hid (y23.heap[y19.heap.size]? = some (.cells #[.string ⟨#[110, 101, 119]⟩, .string ⟨#[110, 101, 119, 101, 114]⟩] 9 (0, 0))) := (hb.block _ (Array.getElem?_eq_some_iff.1 Nq15_y22.out).1).trans Nq15_y22.out
      clear hb
      refine hK.out _ _ ?_ (fun hHeld => ?_)
      · exact ⟨by show y23.cell? ⟨hi, 0, none⟩ = _; rw [cell_of_row _ _ 0 _ _ _ Nbxy23.out]; rfl, by show y23.cell? ⟨hi, 1, none⟩ = _; rw [cell_of_row _ _ 1 _ _ _ Nbxy23.out]; rfl⟩
      clear hK K
      try simp only [Act.put, List.setIfInBounds_toArray, List.set_cons_zero, List.set_cons_succ]
      refine tk 8 12 (.tuple #[.agg #[.string rk, .int .i64 tf, .string ts], .bool b]) ?_
      simp only [Act.put, List.setIfInBounds_toArray, List.set_cons_zero, List.set_cons_succ]
      refine tk 9 21 (.agg #[.string rk, .int .i64 tf, .string ts]) ?_
      simp only [Act.put, List.setIfInBounds_toArray, List.set_cons_zero, List.set_cons_succ]
      refine tk 10 22 (.bool b) ?_
      simp only [Act.put, List.setIfInBounds_toArray, List.set_cons_zero, List.set_cons_succ]
      refine wpAnyH_ready (rs := [12]) (by kernel_rfl) (by simp) ?_
      refine AllReadyH.cons rfl (fun K hK => ?_) AllReadyH.nil
      refine step_store_row rfl 28 (.tmp 6) (.tmp 21) rfl (y0.heap.size) #[.string rk, .int .i64 tf, .string ts] rfl rfl 28 _ Nq6_y23.out (by kernel_rfl) rfl (by simp [Value.oneCell']) rfl ?_
      obtain ⟨y24, hx⟩ : ∃ X, y23.setRow (y0.heap.size) #[.string rk, .int .i64 tf, .string ts] = X := ⟨_, rfl⟩
      have Ky24 : Hid (Kept (w.heap.size + 1 + 1) w1 y24) := by show Kept _ _ _; rw [← hx]; exact Ky23.out.setRow HQq6_.out _
      have Zy24 : Hid (y24.heap.size = y23.heap.size) := by show _ = _; rw [← hx]; simp
      have zy0 := Zy0.out
      have zy19 := Zy19.out
      have zy20 := Zy20.out
      have zy21 := Zy21.out
      have zy22 := Zy22.out
      have zy23 := Zy23.out
      have OOy24 : Hid (RingOwn lo hi y24 (.agg #[.slice g1 n1 c1, .slice g2 n2 c2]) x) := by have h9 := OOy23.out; simp only [Hid] at h9 ⊢; rw [← hx]; exact h9.setRowT2 Nq6_y23.out _
      have RDy24 : Hid (RdAt y24 (w.heap.size + 1 + 1) (q + 1 + 1)) := by have h9 := RDy23.out; simp only [Hid] at h9 ⊢; rw [← hx]; exact h9.setRow (by have := HQq6_.out; omega) _
      have Nq6_y24 : Hid (y24.heap[y0.heap.size]? = some (.cells #[.string rk, .int .i64 tf, .string ts] 28 (0, 0))) := by show _ = _; rw [← hx]; exact setRow_heap _ _ _ _ _ _ Nq6_y23.out
      have Nbry24 : Hid (y24.heap[w.heap.size]? = some (.cells #[.slice none 0 0, .slice none 0 0] 26 (0, 0))) := by show _ = _; rw [← hx]; exact (setRow_other _ _ _ _ (by omega)).trans Nbry23.out
      have Nbty24 : Hid (y24.heap[w.heap.size + 1]? = some (.cells #[.string ⟨#[]⟩, .int .i64 0, .string ⟨#[]⟩] 28 (0, 0))) := by show _ = _; rw [← hx]; exact (setRow_other _ _ _ _ (by omega)).trans Nbty23.out
      have Nbxy24 : Hid (y24.heap[hi]? = some (.cells #[.slice g1 n1 c1, .slice g2 n2 c2] 26 (0, 0))) := by show _ = _; rw [← hx]; exact (setRow_other _ _ _ _ (by omega)).trans Nbxy23.out
      have Nq15_y24 : Hid (y24.heap[y19.heap.size]? = some (.cells #[.string ⟨#[110, 101, 119]⟩, .string ⟨#[110, 101, 119, 101, 114]⟩] 9 (0, 0))) := by show _ = _; rw [← hx]; exact (setRow_other _ _ _ _ (by omega)).trans Nq15_y23.out
      clear zy0
      clear zy19
      clear zy20
      clear zy21
      clear zy22
      clear zy23
      rw [hx]
      clear hx
      refine hK.out _ _ ?_ (fun hHeld => ?_)
      · exact ⟨by show y24.cell? ⟨hi, 0, none⟩ = _; rw [cell_of_row _ _ 0 _ _ _ Nbxy24.out]; rfl, by show y24.cell? ⟨hi, 1, none⟩ = _; rw [cell_of_row _ _ 1 _ _ _ Nbxy24.out]; rfl⟩
      clear hK K
      try simp only [Act.put, List.setIfInBounds_toArray, List.set_cons_zero, List.set_cons_succ]
      refine tk 13 7 (.bool b) ?_
      simp only [Act.put, List.setIfInBounds_toArray, List.set_cons_zero, List.set_cons_succ]
      refine wpAnyH_done (by kernel_rfl) ?_ _
      go_wp2
      go_meet
      case rel =>
        have zy0 := Zy0.out
        have zy19 := Zy19.out
        have zy20 := Zy20.out
        have zy21 := Zy21.out
        have zy22 := Zy22.out
        have zy23 := Zy23.out
        have zy24 := Zy24.out
        have hk9 := HQq6_.out
        exact ⟨_, _, _, _, _, rfl, Nq6_y24.out, HTK.out, by omega, by omega, Nbry24.out, Nbty24.out, Nbxy24.out, OOy24.out, RDy24.out, by omega, Ky24.out⟩
  case rest =>
    obtain ⟨w5, hw5⟩ : ∃ x, x = wc := ⟨_, rfl⟩
    subst hw5
    obtain ⟨b8, rk, tf, ts, q', hp8, hn8, htk, l8, hb8, hnr, hnt, hnx, ho, hr, hq', hk⟩ := hcut
    subst hp8
    have R5 : Hid (RdAt w5 (w.heap.size + 1 + 1) q') := hr
    have K5 : Hid (Kept (w.heap.size + 1 + 1) w1 w5) := hk
    have N5 : Hid (w5.heap[w.heap.size]? = some (.cells #[.slice none 0 0, .slice none 0 0] 26 (0, 0)) ∧ w5.heap[w.heap.size + 1]? = some (.cells #[.string ⟨#[]⟩, .int .i64 0, .string ⟨#[]⟩] 28 (0, 0)) ∧ w5.heap[hi]? = some (.cells #[.slice g1 n1 c1, .slice g2 n2 c2] 26 (0, 0)) ∧ w5.heap[b8]? = some (.cells #[.string rk, .int .i64 tf, .string ts] 28 (0, 0))) := ⟨hnr, hnt, hnx, hn8⟩
    have O5 : Hid (RingOwn lo hi w5 (.agg #[.slice g1 n1 c1, .slice g2 n2 c2]) x) := ho
    have HTK : Hid (rk.size ≤ 10 ∧ 0 ≤ tf ∧ tf ≤ 100) := htk
    have HQ5 : Hid (q' ≤ 40) := hq'
    clear hnr hnt hnx hn8 ho hr hk htk
    go_wp2_with fail
    refine (pick_any w5 (w.heap.size + 1 + 1) q' 6 R5.out (by omega) (by omega)).mono ?_
    rintro e w6 ⟨v, rfl, -, -, -, hk6⟩
    have B6 : Hid (Below w.heap.size w w6) := HB0.out.trans (((K5.out.trans hk6).below HB1.out (by omega)).mono (by omega))
    have Nbrw6 : Hid (w6.heap[w.heap.size]? = some (.cells #[.slice none 0 0, .slice none 0 0] 26 (0, 0))) := (hk6.block _ (Array.getElem?_eq_some_iff.1 N5.out.1).1 (by omega)).trans N5.out.1
    have Nbtw6 : Hid (w6.heap[w.heap.size + 1]? = some (.cells #[.string ⟨#[]⟩, .int .i64 0, .string ⟨#[]⟩] 28 (0, 0))) := (hk6.block _ (Array.getElem?_eq_some_iff.1 N5.out.2.1).1 (by omega)).trans N5.out.2.1
    have Nbxw6 : Hid (w6.heap[hi]? = some (.cells #[.slice g1 n1 c1, .slice g2 n2 c2] 26 (0, 0))) := (hk6.block _ (Array.getElem?_eq_some_iff.1 N5.out.2.2.1).1 (by omega)).trans N5.out.2.2.1
    have Nb8w6 : Hid (w6.heap[b8]? = some (.cells #[.string rk, .int .i64 tf, .string ts] 28 (0, 0))) := (hk6.block _ (Array.getElem?_eq_some_iff.1 N5.out.2.2.2).1 (by omega)).trans N5.out.2.2.2
    have OOw6 : Hid (RingOwn lo hi w6 (.agg #[.slice g1 n1 c1, .slice g2 n2 c2]) x) := O5.out.kept hk6 (by omega)
    have HQbr : Hid (w.heap.size ≤ w.heap.size) := Nat.le_refl _
    have HQbt : Hid (w.heap.size ≤ w.heap.size + 1) := Nat.le_succ _
    clear hk6 N5 O5 K5 R5
    have Bw6 : Hid (Below w.heap.size w w6) := B6.out
    by_cases h0 : v = 0
    · subst h0
      go_wp2_with fail
      refine (specSealOf_any w6 ⟨#[119, 114, 111, 110, 103]⟩ ⟨#[120]⟩ (by unfold maxLen; decide) (by decide)).mono ?_
      obtain ⟨sl, hsl⟩ : ∃ s, sealT ⟨#[119, 114, 111, 110, 103]⟩ ⟨#[120]⟩ = s := ⟨_, rfl⟩
      rw [hsl]
      clear hsl
      rintro e wa ⟨rfl, hba⟩
      have Nbrwa : Hid (wa.heap[w.heap.size]? = some (.cells #[.slice none 0 0, .slice none 0 0] 26 (0, 0))) := (hba.block _ (Array.getElem?_eq_some_iff.1 Nbrw6.out).1).trans Nbrw6.out
      have Nbtwa : Hid (wa.heap[w.heap.size + 1]? = some (.cells #[.string ⟨#[]⟩, .int .i64 0, .string ⟨#[]⟩] 28 (0, 0))) := (hba.block _ (Array.getElem?_eq_some_iff.1 Nbtw6.out).1).trans Nbtw6.out
      have Nbxwa : Hid (wa.heap[hi]? = some (.cells #[.slice g1 n1 c1, .slice g2 n2 c2] 26 (0, 0))) := (hba.block _ (Array.getElem?_eq_some_iff.1 Nbxw6.out).1).trans Nbxw6.out
      have Nb8wa : Hid (wa.heap[b8]? = some (.cells #[.string rk, .int .i64 tf, .string ts] 28 (0, 0))) := (hba.block _ (Array.getElem?_eq_some_iff.1 Nb8w6.out).1).trans Nb8w6.out
      have OOwa : Hid (RingOwn lo hi wa (.agg #[.slice g1 n1 c1, .slice g2 n2 c2]) x) := OOw6.out.below hba
      have Bwa : Hid (Below w.heap.size w wa) := B6.out.trans (hba.mono B6.out.size)
      clear hba
      have t0 : wa.cell? ⟨b8, 0, none⟩ = some (.string rk) := by rw [cell_of_row _ _ 0 _ _ _ Nb8wa.out]; rfl
      have t1 : wa.cell? ⟨b8, 1, none⟩ = some (.int .i64 tf) := by rw [cell_of_row _ _ 1 _ _ _ Nb8wa.out]; rfl
      have t2 : wa.cell? ⟨b8, 2, none⟩ = some (.string ts) := by rw [cell_of_row _ _ 2 _ _ _ Nb8wa.out]; rfl
      have tz : wa.frozen? ⟨b8, 2, none⟩ = false := frozen_of_row _ _ 2 _ _ Nb8wa.out
      obtain ⟨w7, hw7⟩ : ∃ Y, wa.setCell ⟨b8, 2, none⟩ (.string sl) = Y := ⟨_, rfl⟩
      have Nbrw7 : Hid (w7.heap[w.heap.size]? = some (.cells #[.slice none 0 0, .slice none 0 0] 26 (0, 0))) := by show _ = _; rw [← hw7, heap_oth405 _ _ (by omega)]; exact Nbrwa.out
      have Nbtw7 : Hid (w7.heap[w.heap.size + 1]? = some (.cells #[.string ⟨#[]⟩, .int .i64 0, .string ⟨#[]⟩] 28 (0, 0))) := by show _ = _; rw [← hw7, heap_oth405 _ _ (by omega)]; exact Nbtwa.out
      have Nbxw7 : Hid (w7.heap[hi]? = some (.cells #[.slice g1 n1 c1, .slice g2 n2 c2] 26 (0, 0))) := by show _ = _; rw [← hw7, heap_oth405 _ _ (by omega)]; exact Nbxwa.out
      have Nb8w7 : Hid (w7.heap[b8]? = some (.cells #[.string rk, .int .i64 tf, .string sl] 28 (0, 0))) := by show _ = _; rw [← hw7]; exact box32_494 Nb8wa.out _
      have OOw7 : Hid (RingOwn lo hi w7 (.agg #[.slice g1 n1 c1, .slice g2 n2 c2]) x) := by show RingOwn _ _ _ _ _; rw [← hw7]; exact OOwa.out.setCell494 Nb8wa.out _
      have Bw7 : Hid (Below w.heap.size w w7) := by show Below _ _ _; rw [← hw7]; exact Bwa.out.setCell (p := ⟨b8, 2, none⟩) (by show w.heap.size ≤ b8; omega) _
      have HW7 : Hid (wa.setCell ⟨b8, 2, none⟩ (.string sl) = w7) := hw7
      clear hw7
      go_wp2_with fail
      rw [HW7.out]
      clear t0 t1 t2 tz
      have Kw7 : Hid (Below w.heap.size w w7) := Bw7.out
      have Zw7 : Hid (b8 < w7.heap.size) := (Array.getElem?_eq_some_iff.1 Nb8w7.out).1
      refine wp_region_held_drew (S := (fun w' => w'.cell? ⟨hi, 0, none⟩ = some (.slice g1 n1 c1) ∧ w'.cell? ⟨hi, 1, none⟩ = some (.slice g2 n2 c2) ∧ w'.cell? ⟨b8, 0, none⟩ = some (.string rk) ∧ w'.cell? ⟨b8, 1, none⟩ = some (.int .i64 tf) ∧ w'.cell? ⟨b8, 2, none⟩ = some (.string sl))) (by kernel_rfl) ?_ (fun hHeld => ?_)
      · exact ⟨by show w7.cell? ⟨hi, 0, none⟩ = _; rw [cell_of_row _ _ 0 _ _ _ Nbxw7.out]; rfl, by show w7.cell? ⟨hi, 1, none⟩ = _; rw [cell_of_row _ _ 1 _ _ _ Nbxw7.out]; rfl, by show w7.cell? ⟨b8, 0, none⟩ = _; rw [cell_of_row _ _ 0 _ _ _ Nb8w7.out]; rfl, by show w7.cell? ⟨b8, 1, none⟩ = _; rw [cell_of_row _ _ 1 _ _ _ Nb8w7.out]; rfl, by show w7.cell? ⟨b8, 2, none⟩ = _; rw [cell_of_row _ _ 2 _ _ _ Nb8w7.out]; rfl⟩
      refine tk 0 41 (.agg #[.slice g1 n1 c1, .slice g2 n2 c2]) ?_
      simp only [Act.put, List.setIfInBounds_toArray, List.set_cons_zero, List.set_cons_succ]
      refine tk 1 42 (.agg #[.string rk, .int .i64 tf, .string sl]) ?_
      simp only [Act.put, List.setIfInBounds_toArray, List.set_cons_zero, List.set_cons_succ]
      obtain ⟨zw70, hx⟩ : ∃ X, World.drew w7 = X := ⟨_, rfl⟩
      have Kzw70 : Hid (Below w.heap.size w zw70) := by show Below _ _ _; rw [← hx]; exact Kw7.out.drew
      have Zzw70 : Hid (w7.heap.size ≤ zw70.heap.size) := by show _ ≤ _; rw [← hx]; exact Nat.le_refl _
      have OOzw70 : Hid (RingOwn lo hi zw70 (.agg #[.slice g1 n1 c1, .slice g2 n2 c2]) x) := by have h9 := OOw7.out.below (Below.refl _ _).drew; rw [hx] at h9; exact h9
      have Nbrzw70 : Hid (zw70.heap[w.heap.size]? = some (.cells #[.slice none 0 0, .slice none 0 0] 26 (0, 0))) := by show _ = _; rw [← hx]; exact Nbrw7.out
      have Nbtzw70 : Hid (zw70.heap[w.heap.size + 1]? = some (.cells #[.string ⟨#[]⟩, .int .i64 0, .string ⟨#[]⟩] 28 (0, 0))) := by show _ = _; rw [← hx]; exact Nbtw7.out
      have Nbxzw70 : Hid (zw70.heap[hi]? = some (.cells #[.slice g1 n1 c1, .slice g2 n2 c2] 26 (0, 0))) := by show _ = _; rw [← hx]; exact Nbxw7.out
      have Nb8zw70 : Hid (zw70.heap[b8]? = some (.cells #[.string rk, .int .i64 tf, .string sl] 28 (0, 0))) := by show _ = _; rw [← hx]; exact Nb8w7.out
      rw [hx]
      clear hx
      refine wpAnyH_ready (rs := [2]) (by kernel_rfl) (by simp) ?_
      refine AllReadyH.cons rfl (fun K hK => ?_) AllReadyH.nil
      refine step_store_row rfl 26 (.tmp 2) (.tmp 41) rfl (w.heap.size) #[.slice g1 n1 c1, .slice g2 n2 c2] rfl rfl 26 _ Nbrzw70.out (by kernel_rfl) rfl (by simp [Value.oneCell']) rfl ?_
      obtain ⟨zw71, hx⟩ : ∃ X, zw70.setRow (w.heap.size) #[.slice g1 n1 c1, .slice g2 n2 c2] = X := ⟨_, rfl⟩
      have Kzw71 : Hid (Below w.heap.size w zw71) := by show Below _ _ _; rw [← hx]; exact below_setRow Kzw70.out HQbr.out _
      have Zzw71 : Hid (zw71.heap.size = zw70.heap.size) := by show _ = _; rw [← hx]; simp
      have zzw70 := Zzw70.out
      have OOzw71 : Hid (RingOwn lo hi zw71 (.agg #[.slice g1 n1 c1, .slice g2 n2 c2]) x) := by have h9 := OOzw70.out; simp only [Hid] at h9 ⊢; rw [← hx]; exact h9.setRowR Nbrzw70.out _
      have Nbrzw71 : Hid (zw71.heap[w.heap.size]? = some (.cells #[.slice g1 n1 c1, .slice g2 n2 c2] 26 (0, 0))) := by show _ = _; rw [← hx]; exact setRow_heap _ _ _ _ _ _ Nbrzw70.out
      have Nbtzw71 : Hid (zw71.heap[w.heap.size + 1]? = some (.cells #[.string ⟨#[]⟩, .int .i64 0, .string ⟨#[]⟩] 28 (0, 0))) := by show _ = _; rw [← hx]; exact (setRow_other _ _ _ _ (by omega)).trans Nbtzw70.out
      have Nbxzw71 : Hid (zw71.heap[hi]? = some (.cells #[.slice g1 n1 c1, .slice g2 n2 c2] 26 (0, 0))) := by show _ = _; rw [← hx]; exact (setRow_other _ _ _ _ (by omega)).trans Nbxzw70.out
      have Nb8zw71 : Hid (zw71.heap[b8]? = some (.cells #[.string rk, .int .i64 tf, .string sl] 28 (0, 0))) := by show _ = _; rw [← hx]; exact (setRow_other _ _ _ _ (by omega)).trans Nb8zw70.out
      clear zzw70
      rw [hx]
      clear hx
      refine hK.out _ _ ?_ (fun hHeld => ?_)
      · exact ⟨by show zw71.cell? ⟨hi, 0, none⟩ = _; rw [cell_of_row _ _ 0 _ _ _ Nbxzw71.out]; rfl, by show zw71.cell? ⟨hi, 1, none⟩ = _; rw [cell_of_row _ _ 1 _ _ _ Nbxzw71.out]; rfl, by show zw71.cell? ⟨b8, 0, none⟩ = _; rw [cell_of_row _ _ 0 _ _ _ Nb8zw71.out]; rfl, by show zw71.cell? ⟨b8, 1, none⟩ = _; rw [cell_of_row _ _ 1 _ _ _ Nb8zw71.out]; rfl, by show zw71.cell? ⟨b8, 2, none⟩ = _; rw [cell_of_row _ _ 2 _ _ _ Nb8zw71.out]; rfl⟩
      clear hK K
      try simp only [Act.put, List.setIfInBounds_toArray, List.set_cons_zero, List.set_cons_succ]
      refine wpAnyH_ready (rs := [3]) (by kernel_rfl) (by simp) ?_
      refine AllReadyH.cons rfl (fun K hK => ?_) AllReadyH.nil
      refine step_store_row rfl 28 (.tmp 3) (.tmp 42) rfl (w.heap.size + 1) #[.string rk, .int .i64 tf, .string sl] rfl rfl 28 _ Nbtzw71.out (by kernel_rfl) rfl (by simp [Value.oneCell']) rfl ?_
      obtain ⟨zw72, hx⟩ : ∃ X, zw71.setRow (w.heap.size + 1) #[.string rk, .int .i64 tf, .string sl] = X := ⟨_, rfl⟩
      have Kzw72 : Hid (Below w.heap.size w zw72) := by show Below _ _ _; rw [← hx]; exact below_setRow Kzw71.out HQbt.out _
      have Zzw72 : Hid (zw72.heap.size = zw71.heap.size) := by show _ = _; rw [← hx]; simp
      have zzw70 := Zzw70.out
      have zzw71 := Zzw71.out
      have OOzw72 : Hid (RingOwn lo hi zw72 (.agg #[.slice g1 n1 c1, .slice g2 n2 c2]) x) := by have h9 := OOzw71.out; simp only [Hid] at h9 ⊢; rw [← hx]; exact h9.setRowT2 Nbtzw71.out _
      have Nbtzw72 : Hid (zw72.heap[w.heap.size + 1]? = some (.cells #[.string rk, .int .i64 tf, .string sl] 28 (0, 0))) := by show _ = _; rw [← hx]; exact setRow_heap _ _ _ _ _ _ Nbtzw71.out
      have Nbrzw72 : Hid (zw72.heap[w.heap.size]? = some (.cells #[.slice g1 n1 c1, .slice g2 n2 c2] 26 (0, 0))) := by show _ = _; rw [← hx]; exact (setRow_other _ _ _ _ (by omega)).trans Nbrzw71.out
      have Nbxzw72 : Hid (zw72.heap[hi]? = some (.cells #[.slice g1 n1 c1, .slice g2 n2 c2] 26 (0, 0))) := by show _ = _; rw [← hx]; exact (setRow_other _ _ _ _ (by omega)).trans Nbxzw71.out
      have Nb8zw72 : Hid (zw72.heap[b8]? = some (.cells #[.string rk, .int .i64 tf, .string sl] 28 (0, 0))) := by show _ = _; rw [← hx]; exact (setRow_other _ _ _ _ (by omega)).trans Nb8zw71.out
      clear zzw70
      clear zzw71
      rw [hx]
      clear hx
      refine hK.out _ _ ?_ (fun hHeld => ?_)
      · exact ⟨by show zw72.cell? ⟨hi, 0, none⟩ = _; rw [cell_of_row _ _ 0 _ _ _ Nbxzw72.out]; rfl, by show zw72.cell? ⟨hi, 1, none⟩ = _; rw [cell_of_row _ _ 1 _ _ _ Nbxzw72.out]; rfl, by show zw72.cell? ⟨b8, 0, none⟩ = _; rw [cell_of_row _ _ 0 _ _ _ Nb8zw72.out]; rfl, by show zw72.cell? ⟨b8, 1, none⟩ = _; rw [cell_of_row _ _ 1 _ _ _ Nb8zw72.out]; rfl, by show zw72.cell? ⟨b8, 2, none⟩ = _; rw [cell_of_row _ _ 2 _ _ _ Nb8zw72.out]; rfl⟩
      clear hK K
      try simp only [Act.put, List.setIfInBounds_toArray, List.set_cons_zero, List.set_cons_succ]
      refine wpAnyH_done (by kernel_rfl) ?_ _
      have r0 : zw72.cell? ⟨w.heap.size, 0, none⟩ = some (.slice g1 n1 c1) := by rw [cell_of_row _ _ 0 _ _ _ Nbrzw72.out]; rfl
      have r1 : zw72.cell? ⟨w.heap.size, 1, none⟩ = some (.slice g2 n2 c2) := by rw [cell_of_row _ _ 1 _ _ _ Nbrzw72.out]; rfl
      have r2 : zw72.cell? ⟨w.heap.size + 1, 0, none⟩ = some (.string rk) := by rw [cell_of_row _ _ 0 _ _ _ Nbtzw72.out]; rfl
      have r3 : zw72.cell? ⟨w.heap.size + 1, 1, none⟩ = some (.int .i64 tf) := by rw [cell_of_row _ _ 1 _ _ _ Nbtzw72.out]; rfl
      have r4 : zw72.cell? ⟨w.heap.size + 1, 2, none⟩ = some (.string sl) := by rw [cell_of_row _ _ 2 _ _ _ Nbtzw72.out]; rfl
      go_wp2
      refine bodyPost_ret (v := .tuple #[.agg #[.slice g1 n1 c1, .slice g2 n2 c2], .agg #[.string rk, .int .i64 tf, .string sl]]) (by simp [results, Tryd.results5, go_sem, r0, r1, r2, r3, r4]) rfl ⟨_, _, _, _, _, _, x, rk, tf, sl, rfl, OOzw72.out.at, by have := HTK.out.1; omega, HTK.out.2.1, by have := HTK.out.2.2; omega, Kzw72.out⟩
    have h0i : (v == 0) = false := by simp [h0]
    by_cases h1 : v = 1
    · subst h1
      obtain ⟨tf1, htf1⟩ : ∃ z, tf + 1 = z := ⟨_, rfl⟩
      have HTF : Hid (0 ≤ tf1 ∧ tf1 ≤ 101) := by have := HTK.out; exact ⟨by omega, by omega⟩
      have qa : IntKind.i64.wrap (tf + 1) = tf1 := by have := HTK.out; rw [← htf1]; exact IntWalk.i64_in _ (by omega)
      clear htf1
      have t0 : w6.cell? ⟨b8, 0, none⟩ = some (.string rk) := by rw [cell_of_row _ _ 0 _ _ _ Nb8w6.out]; rfl
      have t1 : w6.cell? ⟨b8, 1, none⟩ = some (.int .i64 tf) := by rw [cell_of_row _ _ 1 _ _ _ Nb8w6.out]; rfl
      have t2 : w6.cell? ⟨b8, 2, none⟩ = some (.string ts) := by rw [cell_of_row _ _ 2 _ _ _ Nb8w6.out]; rfl
      have tz : w6.frozen? ⟨b8, 1, none⟩ = false := frozen_of_row _ _ 1 _ _ Nb8w6.out
      obtain ⟨w7, hw7⟩ : ∃ Y, w6.setCell ⟨b8, 1, none⟩ (.int .i64 tf1) = Y := ⟨_, rfl⟩
      have Nbrw7 : Hid (w7.heap[w.heap.size]? = some (.cells #[.slice none 0 0, .slice none 0 0] 26 (0, 0))) := by show _ = _; rw [← hw7, heap_oth405 _ _ (by omega)]; exact Nbrw6.out
      have Nbtw7 : Hid (w7.heap[w.heap.size + 1]? = some (.cells #[.string ⟨#[]⟩, .int .i64 0, .string ⟨#[]⟩] 28 (0, 0))) := by show _ = _; rw [← hw7, heap_oth405 _ _ (by omega)]; exact Nbtw6.out
      have Nbxw7 : Hid (w7.heap[hi]? = some (.cells #[.slice g1 n1 c1, .slice g2 n2 c2] 26 (0, 0))) := by show _ = _; rw [← hw7, heap_oth405 _ _ (by omega)]; exact Nbxw6.out
      have Nb8w7 : Hid (w7.heap[b8]? = some (.cells #[.string rk, .int .i64 tf1, .string ts] 28 (0, 0))) := by show _ = _; rw [← hw7]; exact box31_494 Nb8w6.out _
      have OOw7 : Hid (RingOwn lo hi w7 (.agg #[.slice g1 n1 c1, .slice g2 n2 c2]) x) := by show RingOwn _ _ _ _ _; rw [← hw7]; exact OOw6.out.setCell494 Nb8w6.out _
      have Bw7 : Hid (Below w.heap.size w w7) := by show Below _ _ _; rw [← hw7]; exact Bw6.out.setCell (p := ⟨b8, 1, none⟩) (by show w.heap.size ≤ b8; omega) _
      have HW7 : Hid (w6.setCell ⟨b8, 1, none⟩ (.int .i64 tf1) = w7) := hw7
      clear hw7
      go_wp2_with fail
      rw [HW7.out]
      clear t0 t1 t2 tz
      have Kw7 : Hid (Below w.heap.size w w7) := Bw7.out
      have Zw7 : Hid (b8 < w7.heap.size) := (Array.getElem?_eq_some_iff.1 Nb8w7.out).1
      refine wp_region_held_drew (S := (fun w' => w'.cell? ⟨hi, 0, none⟩ = some (.slice g1 n1 c1) ∧ w'.cell? ⟨hi, 1, none⟩ = some (.slice g2 n2 c2) ∧ w'.cell? ⟨b8, 0, none⟩ = some (.string rk) ∧ w'.cell? ⟨b8, 1, none⟩ = some (.int .i64 tf1) ∧ w'.cell? ⟨b8, 2, none⟩ = some (.string ts))) (by kernel_rfl) ?_ (fun hHeld => ?_)
      · exact ⟨by show w7.cell? ⟨hi, 0, none⟩ = _; rw [cell_of_row _ _ 0 _ _ _ Nbxw7.out]; rfl, by show w7.cell? ⟨hi, 1, none⟩ = _; rw [cell_of_row _ _ 1 _ _ _ Nbxw7.out]; rfl, by show w7.cell? ⟨b8, 0, none⟩ = _; rw [cell_of_row _ _ 0 _ _ _ Nb8w7.out]; rfl, by show w7.cell? ⟨b8, 1, none⟩ = _; rw [cell_of_row _ _ 1 _ _ _ Nb8w7.out]; rfl, by show w7.cell? ⟨b8, 2, none⟩ = _; rw [cell_of_row _ _ 2 _ _ _ Nb8w7.out]; rfl⟩
      refine tk 0 41 (.agg #[.slice g1 n1 c1, .slice g2 n2 c2]) ?_
      simp only [Act.put, List.setIfInBounds_toArray, List.set_cons_zero, List.set_cons_succ]
      refine tk 1 42 (.agg #[.string rk, .int .i64 tf1, .string ts]) ?_
      simp only [Act.put, List.setIfInBounds_toArray, List.set_cons_zero, List.set_cons_succ]
      obtain ⟨zw70, hx⟩ : ∃ X, World.drew w7 = X := ⟨_, rfl⟩
      have Kzw70 : Hid (Below w.heap.size w zw70) := by show Below _ _ _; rw [← hx]; exact Kw7.out.drew
      have Zzw70 : Hid (w7.heap.size ≤ zw70.heap.size) := by show _ ≤ _; rw [← hx]; exact Nat.le_refl _
      have OOzw70 : Hid (RingOwn lo hi zw70 (.agg #[.slice g1 n1 c1, .slice g2 n2 c2]) x) := by have h9 := OOw7.out.below (Below.refl _ _).drew; rw [hx] at h9; exact h9
      have Nbrzw70 : Hid (zw70.heap[w.heap.size]? = some (.cells #[.slice none 0 0, .slice none 0 0] 26 (0, 0))) := by show _ = _; rw [← hx]; exact Nbrw7.out
      have Nbtzw70 : Hid (zw70.heap[w.heap.size + 1]? = some (.cells #[.string ⟨#[]⟩, .int .i64 0, .string ⟨#[]⟩] 28 (0, 0))) := by show _ = _; rw [← hx]; exact Nbtw7.out
      have Nbxzw70 : Hid (zw70.heap[hi]? = some (.cells #[.slice g1 n1 c1, .slice g2 n2 c2] 26 (0, 0))) := by show _ = _; rw [← hx]; exact Nbxw7.out
      have Nb8zw70 : Hid (zw70.heap[b8]? = some (.cells #[.string rk, .int .i64 tf1, .string ts] 28 (0, 0))) := by show _ = _; rw [← hx]; exact Nb8w7.out
      rw [hx]
      clear hx
      refine wpAnyH_ready (rs := [2]) (by kernel_rfl) (by simp) ?_
      refine AllReadyH.cons rfl (fun K hK => ?_) AllReadyH.nil
      refine step_store_row rfl 26 (.tmp 2) (.tmp 41) rfl (w.heap.size) #[.slice g1 n1 c1, .slice g2 n2 c2] rfl rfl 26 _ Nbrzw70.out (by kernel_rfl) rfl (by simp [Value.oneCell']) rfl ?_
      obtain ⟨zw71, hx⟩ : ∃ X, zw70.setRow (w.heap.size) #[.slice g1 n1 c1, .slice g2 n2 c2] = X := ⟨_, rfl⟩
      have Kzw71 : Hid (Below w.heap.size w zw71) := by show Below _ _ _; rw [← hx]; exact below_setRow Kzw70.out HQbr.out _
      have Zzw71 : Hid (zw71.heap.size = zw70.heap.size) := by show _ = _; rw [← hx]; simp
      have zzw70 := Zzw70.out
      have OOzw71 : Hid (RingOwn lo hi zw71 (.agg #[.slice g1 n1 c1, .slice g2 n2 c2]) x) := by have h9 := OOzw70.out; simp only [Hid] at h9 ⊢; rw [← hx]; exact h9.setRowR Nbrzw70.out _
      have Nbrzw71 : Hid (zw71.heap[w.heap.size]? = some (.cells #[.slice g1 n1 c1, .slice g2 n2 c2] 26 (0, 0))) := by show _ = _; rw [← hx]; exact setRow_heap _ _ _ _ _ _ Nbrzw70.out
      have Nbtzw71 : Hid (zw71.heap[w.heap.size + 1]? = some (.cells #[.string ⟨#[]⟩, .int .i64 0, .string ⟨#[]⟩] 28 (0, 0))) := by show _ = _; rw [← hx]; exact (setRow_other _ _ _ _ (by omega)).trans Nbtzw70.out
      have Nbxzw71 : Hid (zw71.heap[hi]? = some (.cells #[.slice g1 n1 c1, .slice g2 n2 c2] 26 (0, 0))) := by show _ = _; rw [← hx]; exact (setRow_other _ _ _ _ (by omega)).trans Nbxzw70.out
      have Nb8zw71 : Hid (zw71.heap[b8]? = some (.cells #[.string rk, .int .i64 tf1, .string ts] 28 (0, 0))) := by show _ = _; rw [← hx]; exact (setRow_other _ _ _ _ (by omega)).trans Nb8zw70.out
      clear zzw70
      rw [hx]
      clear hx
      refine hK.out _ _ ?_ (fun hHeld => ?_)
      · exact ⟨by show zw71.cell? ⟨hi, 0, none⟩ = _; rw [cell_of_row _ _ 0 _ _ _ Nbxzw71.out]; rfl, by show zw71.cell? ⟨hi, 1, none⟩ = _; rw [cell_of_row _ _ 1 _ _ _ Nbxzw71.out]; rfl, by show zw71.cell? ⟨b8, 0, none⟩ = _; rw [cell_of_row _ _ 0 _ _ _ Nb8zw71.out]; rfl, by show zw71.cell? ⟨b8, 1, none⟩ = _; rw [cell_of_row _ _ 1 _ _ _ Nb8zw71.out]; rfl, by show zw71.cell? ⟨b8, 2, none⟩ = _; rw [cell_of_row _ _ 2 _ _ _ Nb8zw71.out]; rfl⟩
      clear hK K
      try simp only [Act.put, List.setIfInBounds_toArray, List.set_cons_zero, List.set_cons_succ]
      refine wpAnyH_ready (rs := [3]) (by kernel_rfl) (by simp) ?_
      refine AllReadyH.cons rfl (fun K hK => ?_) AllReadyH.nil
      refine step_store_row rfl 28 (.tmp 3) (.tmp 42) rfl (w.heap.size + 1) #[.string rk, .int .i64 tf1, .string ts] rfl rfl 28 _ Nbtzw71.out (by kernel_rfl) rfl (by simp [Value.oneCell']) rfl ?_
      obtain ⟨zw72, hx⟩ : ∃ X, zw71.setRow (w.heap.size + 1) #[.string rk, .int .i64 tf1, .string ts] = X := ⟨_, rfl⟩
      have Kzw72 : Hid (Below w.heap.size w zw72) := by show Below _ _ _; rw [← hx]; exact below_setRow Kzw71.out HQbt.out _
      have Zzw72 : Hid (zw72.heap.size = zw71.heap.size) := by show _ = _; rw [← hx]; simp
      have zzw70 := Zzw70.out
      have zzw71 := Zzw71.out
      have OOzw72 : Hid (RingOwn lo hi zw72 (.agg #[.slice g1 n1 c1, .slice g2 n2 c2]) x) := by have h9 := OOzw71.out; simp only [Hid] at h9 ⊢; rw [← hx]; exact h9.setRowT2 Nbtzw71.out _
      have Nbtzw72 : Hid (zw72.heap[w.heap.size + 1]? = some (.cells #[.string rk, .int .i64 tf1, .string ts] 28 (0, 0))) := by show _ = _; rw [← hx]; exact setRow_heap _ _ _ _ _ _ Nbtzw71.out
      have Nbrzw72 : Hid (zw72.heap[w.heap.size]? = some (.cells #[.slice g1 n1 c1, .slice g2 n2 c2] 26 (0, 0))) := by show _ = _; rw [← hx]; exact (setRow_other _ _ _ _ (by omega)).trans Nbrzw71.out
      have Nbxzw72 : Hid (zw72.heap[hi]? = some (.cells #[.slice g1 n1 c1, .slice g2 n2 c2] 26 (0, 0))) := by show _ = _; rw [← hx]; exact (setRow_other _ _ _ _ (by omega)).trans Nbxzw71.out
      have Nb8zw72 : Hid (zw72.heap[b8]? = some (.cells #[.string rk, .int .i64 tf1, .string ts] 28 (0, 0))) := by show _ = _; rw [← hx]; exact (setRow_other _ _ _ _ (by omega)).trans Nb8zw71.out
      clear zzw70
      clear zzw71
      rw [hx]
      clear hx
      refine hK.out _ _ ?_ (fun hHeld => ?_)
      · exact ⟨by show zw72.cell? ⟨hi, 0, none⟩ = _; rw [cell_of_row _ _ 0 _ _ _ Nbxzw72.out]; rfl, by show zw72.cell? ⟨hi, 1, none⟩ = _; rw [cell_of_row _ _ 1 _ _ _ Nbxzw72.out]; rfl, by show zw72.cell? ⟨b8, 0, none⟩ = _; rw [cell_of_row _ _ 0 _ _ _ Nb8zw72.out]; rfl, by show zw72.cell? ⟨b8, 1, none⟩ = _; rw [cell_of_row _ _ 1 _ _ _ Nb8zw72.out]; rfl, by show zw72.cell? ⟨b8, 2, none⟩ = _; rw [cell_of_row _ _ 2 _ _ _ Nb8zw72.out]; rfl⟩
      clear hK K
      try simp only [Act.put, List.setIfInBounds_toArray, List.set_cons_zero, List.set_cons_succ]
      refine wpAnyH_done (by kernel_rfl) ?_ _
      have r0 : zw72.cell? ⟨w.heap.size, 0, none⟩ = some (.slice g1 n1 c1) := by rw [cell_of_row _ _ 0 _ _ _ Nbrzw72.out]; rfl
      have r1 : zw72.cell? ⟨w.heap.size, 1, none⟩ = some (.slice g2 n2 c2) := by rw [cell_of_row _ _ 1 _ _ _ Nbrzw72.out]; rfl
      have r2 : zw72.cell? ⟨w.heap.size + 1, 0, none⟩ = some (.string rk) := by rw [cell_of_row _ _ 0 _ _ _ Nbtzw72.out]; rfl
      have r3 : zw72.cell? ⟨w.heap.size + 1, 1, none⟩ = some (.int .i64 tf1) := by rw [cell_of_row _ _ 1 _ _ _ Nbtzw72.out]; rfl
      have r4 : zw72.cell? ⟨w.heap.size + 1, 2, none⟩ = some (.string ts) := by rw [cell_of_row _ _ 2 _ _ _ Nbtzw72.out]; rfl
      go_wp2
      refine bodyPost_ret (v := .tuple #[.agg #[.slice g1 n1 c1, .slice g2 n2 c2], .agg #[.string rk, .int .i64 tf1, .string ts]]) (by simp [results, Tryd.results5, go_sem, r0, r1, r2, r3, r4]) rfl ⟨_, _, _, _, _, _, x, rk, tf1, ts, rfl, OOzw72.out.at, by have := HTK.out.1; omega, HTF.out.1, HTF.out.2, Kzw72.out⟩
    have h1i : (v == 1) = false := by simp [h1]
    by_cases h2 : v = 2
    · subst h2
      obtain ⟨tkx, htkx⟩ : ∃ z, rk ++ (⟨#[120]⟩ : ByteArray) = z := ⟨_, rfl⟩
      have h120 : (⟨#[120]⟩ : ByteArray).size = 1 := by decide
      have HTX : Hid (tkx.size ≤ 11) := by have h9 := HTK.out.1; show tkx.size ≤ 11; rw [← htkx, ByteArray.size_append]; omega
      have qx : ∀ w : World, (Op.stringOp .add rk ⟨#[120]⟩).run Tryd.prog w = .ok (.string tkx) w := fun w => by rw [run_string_add_sum w _ _ (by have h9 := HTK.out.1; omega), htkx]
      clear htkx h120
      have t0 : w6.cell? ⟨b8, 0, none⟩ = some (.string rk) := by rw [cell_of_row _ _ 0 _ _ _ Nb8w6.out]; rfl
      have t1 : w6.cell? ⟨b8, 1, none⟩ = some (.int .i64 tf) := by rw [cell_of_row _ _ 1 _ _ _ Nb8w6.out]; rfl
      have t2 : w6.cell? ⟨b8, 2, none⟩ = some (.string ts) := by rw [cell_of_row _ _ 2 _ _ _ Nb8w6.out]; rfl
      have tz : w6.frozen? ⟨b8, 0, none⟩ = false := frozen_of_row _ _ 0 _ _ Nb8w6.out
      obtain ⟨w7, hw7⟩ : ∃ Y, w6.setCell ⟨b8, 0, none⟩ (.string tkx) = Y := ⟨_, rfl⟩
      have Nbrw7 : Hid (w7.heap[w.heap.size]? = some (.cells #[.slice none 0 0, .slice none 0 0] 26 (0, 0))) := by show _ = _; rw [← hw7, heap_oth405 _ _ (by omega)]; exact Nbrw6.out
      have Nbtw7 : Hid (w7.heap[w.heap.size + 1]? = some (.cells #[.string ⟨#[]⟩, .int .i64 0, .string ⟨#[]⟩] 28 (0, 0))) := by show _ = _; rw [← hw7, heap_oth405 _ _ (by omega)]; exact Nbtw6.out
      have Nbxw7 : Hid (w7.heap[hi]? = some (.cells #[.slice g1 n1 c1, .slice g2 n2 c2] 26 (0, 0))) := by show _ = _; rw [← hw7, heap_oth405 _ _ (by omega)]; exact Nbxw6.out
      have Nb8w7 : Hid (w7.heap[b8]? = some (.cells #[.string tkx, .int .i64 tf, .string ts] 28 (0, 0))) := by show _ = _; rw [← hw7]; exact box30_494 Nb8w6.out _
      have OOw7 : Hid (RingOwn lo hi w7 (.agg #[.slice g1 n1 c1, .slice g2 n2 c2]) x) := by show RingOwn _ _ _ _ _; rw [← hw7]; exact OOw6.out.setCell494 Nb8w6.out _
      have Bw7 : Hid (Below w.heap.size w w7) := by show Below _ _ _; rw [← hw7]; exact Bw6.out.setCell (p := ⟨b8, 0, none⟩) (by show w.heap.size ≤ b8; omega) _
      have HW7 : Hid (w6.setCell ⟨b8, 0, none⟩ (.string tkx) = w7) := hw7
      clear hw7
      go_wp2_with fail
      rw [HW7.out]
      clear t0 t1 t2 tz
      have Kw7 : Hid (Below w.heap.size w w7) := Bw7.out
      have Zw7 : Hid (b8 < w7.heap.size) := (Array.getElem?_eq_some_iff.1 Nb8w7.out).1
      refine wp_region_held_drew (S := (fun w' => w'.cell? ⟨hi, 0, none⟩ = some (.slice g1 n1 c1) ∧ w'.cell? ⟨hi, 1, none⟩ = some (.slice g2 n2 c2) ∧ w'.cell? ⟨b8, 0, none⟩ = some (.string tkx) ∧ w'.cell? ⟨b8, 1, none⟩ = some (.int .i64 tf) ∧ w'.cell? ⟨b8, 2, none⟩ = some (.string ts))) (by kernel_rfl) ?_ (fun hHeld => ?_)
      · exact ⟨by show w7.cell? ⟨hi, 0, none⟩ = _; rw [cell_of_row _ _ 0 _ _ _ Nbxw7.out]; rfl, by show w7.cell? ⟨hi, 1, none⟩ = _; rw [cell_of_row _ _ 1 _ _ _ Nbxw7.out]; rfl, by show w7.cell? ⟨b8, 0, none⟩ = _; rw [cell_of_row _ _ 0 _ _ _ Nb8w7.out]; rfl, by show w7.cell? ⟨b8, 1, none⟩ = _; rw [cell_of_row _ _ 1 _ _ _ Nb8w7.out]; rfl, by show w7.cell? ⟨b8, 2, none⟩ = _; rw [cell_of_row _ _ 2 _ _ _ Nb8w7.out]; rfl⟩
      refine tk 0 41 (.agg #[.slice g1 n1 c1, .slice g2 n2 c2]) ?_
      simp only [Act.put, List.setIfInBounds_toArray, List.set_cons_zero, List.set_cons_succ]
      refine tk 1 42 (.agg #[.string tkx, .int .i64 tf, .string ts]) ?_
      simp only [Act.put, List.setIfInBounds_toArray, List.set_cons_zero, List.set_cons_succ]
      obtain ⟨zw70, hx⟩ : ∃ X, World.drew w7 = X := ⟨_, rfl⟩
      have Kzw70 : Hid (Below w.heap.size w zw70) := by show Below _ _ _; rw [← hx]; exact Kw7.out.drew
      have Zzw70 : Hid (w7.heap.size ≤ zw70.heap.size) := by show _ ≤ _; rw [← hx]; exact Nat.le_refl _
      have OOzw70 : Hid (RingOwn lo hi zw70 (.agg #[.slice g1 n1 c1, .slice g2 n2 c2]) x) := by have h9 := OOw7.out.below (Below.refl _ _).drew; rw [hx] at h9; exact h9
      have Nbrzw70 : Hid (zw70.heap[w.heap.size]? = some (.cells #[.slice none 0 0, .slice none 0 0] 26 (0, 0))) := by show _ = _; rw [← hx]; exact Nbrw7.out
      have Nbtzw70 : Hid (zw70.heap[w.heap.size + 1]? = some (.cells #[.string ⟨#[]⟩, .int .i64 0, .string ⟨#[]⟩] 28 (0, 0))) := by show _ = _; rw [← hx]; exact Nbtw7.out
      have Nbxzw70 : Hid (zw70.heap[hi]? = some (.cells #[.slice g1 n1 c1, .slice g2 n2 c2] 26 (0, 0))) := by show _ = _; rw [← hx]; exact Nbxw7.out
      have Nb8zw70 : Hid (zw70.heap[b8]? = some (.cells #[.string tkx, .int .i64 tf, .string ts] 28 (0, 0))) := by show _ = _; rw [← hx]; exact Nb8w7.out
      rw [hx]
      clear hx
      refine wpAnyH_ready (rs := [2]) (by kernel_rfl) (by simp) ?_
      refine AllReadyH.cons rfl (fun K hK => ?_) AllReadyH.nil
      refine step_store_row rfl 26 (.tmp 2) (.tmp 41) rfl (w.heap.size) #[.slice g1 n1 c1, .slice g2 n2 c2] rfl rfl 26 _ Nbrzw70.out (by kernel_rfl) rfl (by simp [Value.oneCell']) rfl ?_
      obtain ⟨zw71, hx⟩ : ∃ X, zw70.setRow (w.heap.size) #[.slice g1 n1 c1, .slice g2 n2 c2] = X := ⟨_, rfl⟩
      have Kzw71 : Hid (Below w.heap.size w zw71) := by show Below _ _ _; rw [← hx]; exact below_setRow Kzw70.out HQbr.out _
      have Zzw71 : Hid (zw71.heap.size = zw70.heap.size) := by show _ = _; rw [← hx]; simp
      have zzw70 := Zzw70.out
      have OOzw71 : Hid (RingOwn lo hi zw71 (.agg #[.slice g1 n1 c1, .slice g2 n2 c2]) x) := by have h9 := OOzw70.out; simp only [Hid] at h9 ⊢; rw [← hx]; exact h9.setRowR Nbrzw70.out _
      have Nbrzw71 : Hid (zw71.heap[w.heap.size]? = some (.cells #[.slice g1 n1 c1, .slice g2 n2 c2] 26 (0, 0))) := by show _ = _; rw [← hx]; exact setRow_heap _ _ _ _ _ _ Nbrzw70.out
      have Nbtzw71 : Hid (zw71.heap[w.heap.size + 1]? = some (.cells #[.string ⟨#[]⟩, .int .i64 0, .string ⟨#[]⟩] 28 (0, 0))) := by show _ = _; rw [← hx]; exact (setRow_other _ _ _ _ (by omega)).trans Nbtzw70.out
      have Nbxzw71 : Hid (zw71.heap[hi]? = some (.cells #[.slice g1 n1 c1, .slice g2 n2 c2] 26 (0, 0))) := by show _ = _; rw [← hx]; exact (setRow_other _ _ _ _ (by omega)).trans Nbxzw70.out
      have Nb8zw71 : Hid (zw71.heap[b8]? = some (.cells #[.string tkx, .int .i64 tf, .string ts] 28 (0, 0))) := by show _ = _; rw [← hx]; exact (setRow_other _ _ _ _ (by omega)).trans Nb8zw70.out
      clear zzw70
      rw [hx]
      clear hx
      refine hK.out _ _ ?_ (fun hHeld => ?_)
      · exact ⟨by show zw71.cell? ⟨hi, 0, none⟩ = _; rw [cell_of_row _ _ 0 _ _ _ Nbxzw71.out]; rfl, by show zw71.cell? ⟨hi, 1, none⟩ = _; rw [cell_of_row _ _ 1 _ _ _ Nbxzw71.out]; rfl, by show zw71.cell? ⟨b8, 0, none⟩ = _; rw [cell_of_row _ _ 0 _ _ _ Nb8zw71.out]; rfl, by show zw71.cell? ⟨b8, 1, none⟩ = _; rw [cell_of_row _ _ 1 _ _ _ Nb8zw71.out]; rfl, by show zw71.cell? ⟨b8, 2, none⟩ = _; rw [cell_of_row _ _ 2 _ _ _ Nb8zw71.out]; rfl⟩
      clear hK K
      try simp only [Act.put, List.setIfInBounds_toArray, List.set_cons_zero, List.set_cons_succ]
      refine wpAnyH_ready (rs := [3]) (by kernel_rfl) (by simp) ?_
      refine AllReadyH.cons rfl (fun K hK => ?_) AllReadyH.nil
      refine step_store_row rfl 28 (.tmp 3) (.tmp 42) rfl (w.heap.size + 1) #[.string tkx, .int .i64 tf, .string ts] rfl rfl 28 _ Nbtzw71.out (by kernel_rfl) rfl (by simp [Value.oneCell']) rfl ?_
      obtain ⟨zw72, hx⟩ : ∃ X, zw71.setRow (w.heap.size + 1) #[.string tkx, .int .i64 tf, .string ts] = X := ⟨_, rfl⟩
      have Kzw72 : Hid (Below w.heap.size w zw72) := by show Below _ _ _; rw [← hx]; exact below_setRow Kzw71.out HQbt.out _
      have Zzw72 : Hid (zw72.heap.size = zw71.heap.size) := by show _ = _; rw [← hx]; simp
      have zzw70 := Zzw70.out
      have zzw71 := Zzw71.out
      have OOzw72 : Hid (RingOwn lo hi zw72 (.agg #[.slice g1 n1 c1, .slice g2 n2 c2]) x) := by have h9 := OOzw71.out; simp only [Hid] at h9 ⊢; rw [← hx]; exact h9.setRowT2 Nbtzw71.out _
      have Nbtzw72 : Hid (zw72.heap[w.heap.size + 1]? = some (.cells #[.string tkx, .int .i64 tf, .string ts] 28 (0, 0))) := by show _ = _; rw [← hx]; exact setRow_heap _ _ _ _ _ _ Nbtzw71.out
      have Nbrzw72 : Hid (zw72.heap[w.heap.size]? = some (.cells #[.slice g1 n1 c1, .slice g2 n2 c2] 26 (0, 0))) := by show _ = _; rw [← hx]; exact (setRow_other _ _ _ _ (by omega)).trans Nbrzw71.out
      have Nbxzw72 : Hid (zw72.heap[hi]? = some (.cells #[.slice g1 n1 c1, .slice g2 n2 c2] 26 (0, 0))) := by show _ = _; rw [← hx]; exact (setRow_other _ _ _ _ (by omega)).trans Nbxzw71.out
      have Nb8zw72 : Hid (zw72.heap[b8]? = some (.cells #[.string tkx, .int .i64 tf, .string ts] 28 (0, 0))) := by show _ = _; rw [← hx]; exact (setRow_other _ _ _ _ (by omega)).trans Nb8zw71.out
      clear zzw70
      clear zzw71
      rw [hx]
      clear hx
      refine hK.out _ _ ?_ (fun hHeld => ?_)
      · exact ⟨by show zw72.cell? ⟨hi, 0, none⟩ = _; rw [cell_of_row _ _ 0 _ _ _ Nbxzw72.out]; rfl, by show zw72.cell? ⟨hi, 1, none⟩ = _; rw [cell_of_row _ _ 1 _ _ _ Nbxzw72.out]; rfl, by show zw72.cell? ⟨b8, 0, none⟩ = _; rw [cell_of_row _ _ 0 _ _ _ Nb8zw72.out]; rfl, by show zw72.cell? ⟨b8, 1, none⟩ = _; rw [cell_of_row _ _ 1 _ _ _ Nb8zw72.out]; rfl, by show zw72.cell? ⟨b8, 2, none⟩ = _; rw [cell_of_row _ _ 2 _ _ _ Nb8zw72.out]; rfl⟩
      clear hK K
      try simp only [Act.put, List.setIfInBounds_toArray, List.set_cons_zero, List.set_cons_succ]
      refine wpAnyH_done (by kernel_rfl) ?_ _
      have r0 : zw72.cell? ⟨w.heap.size, 0, none⟩ = some (.slice g1 n1 c1) := by rw [cell_of_row _ _ 0 _ _ _ Nbrzw72.out]; rfl
      have r1 : zw72.cell? ⟨w.heap.size, 1, none⟩ = some (.slice g2 n2 c2) := by rw [cell_of_row _ _ 1 _ _ _ Nbrzw72.out]; rfl
      have r2 : zw72.cell? ⟨w.heap.size + 1, 0, none⟩ = some (.string tkx) := by rw [cell_of_row _ _ 0 _ _ _ Nbtzw72.out]; rfl
      have r3 : zw72.cell? ⟨w.heap.size + 1, 1, none⟩ = some (.int .i64 tf) := by rw [cell_of_row _ _ 1 _ _ _ Nbtzw72.out]; rfl
      have r4 : zw72.cell? ⟨w.heap.size + 1, 2, none⟩ = some (.string ts) := by rw [cell_of_row _ _ 2 _ _ _ Nbtzw72.out]; rfl
      go_wp2
      refine bodyPost_ret (v := .tuple #[.agg #[.slice g1 n1 c1, .slice g2 n2 c2], .agg #[.string tkx, .int .i64 tf, .string ts]]) (by simp [results, Tryd.results5, go_sem, r0, r1, r2, r3, r4]) rfl ⟨_, _, _, _, _, _, x, tkx, tf, ts, rfl, OOzw72.out.at, HTX.out, HTK.out.2.1, by have := HTK.out.2.2; omega, Kzw72.out⟩
    have h2i : (v == 2) = false := by simp [h2]
    go_wp2_with fail
    have Kw6 : Hid (Below w.heap.size w w6) := Bw6.out
    have Zw6 : Hid (b8 < w6.heap.size) := (Array.getElem?_eq_some_iff.1 Nb8w6.out).1
    refine wp_region_held_drew (S := (fun w' => w'.cell? ⟨hi, 0, none⟩ = some (.slice g1 n1 c1) ∧ w'.cell? ⟨hi, 1, none⟩ = some (.slice g2 n2 c2) ∧ w'.cell? ⟨b8, 0, none⟩ = some (.string rk) ∧ w'.cell? ⟨b8, 1, none⟩ = some (.int .i64 tf) ∧ w'.cell? ⟨b8, 2, none⟩ = some (.string ts))) (by kernel_rfl) ?_ (fun hHeld => ?_)
    · exact ⟨by show w6.cell? ⟨hi, 0, none⟩ = _; rw [cell_of_row _ _ 0 _ _ _ Nbxw6.out]; rfl, by show w6.cell? ⟨hi, 1, none⟩ = _; rw [cell_of_row _ _ 1 _ _ _ Nbxw6.out]; rfl, by show w6.cell? ⟨b8, 0, none⟩ = _; rw [cell_of_row _ _ 0 _ _ _ Nb8w6.out]; rfl, by show w6.cell? ⟨b8, 1, none⟩ = _; rw [cell_of_row _ _ 1 _ _ _ Nb8w6.out]; rfl, by show w6.cell? ⟨b8, 2, none⟩ = _; rw [cell_of_row _ _ 2 _ _ _ Nb8w6.out]; rfl⟩
    refine tk 0 41 (.agg #[.slice g1 n1 c1, .slice g2 n2 c2]) ?_
    simp only [Act.put, List.setIfInBounds_toArray, List.set_cons_zero, List.set_cons_succ]
    refine tk 1 42 (.agg #[.string rk, .int .i64 tf, .string ts]) ?_
    simp only [Act.put, List.setIfInBounds_toArray, List.set_cons_zero, List.set_cons_succ]
    obtain ⟨zw60, hx⟩ : ∃ X, World.drew w6 = X := ⟨_, rfl⟩
    have Kzw60 : Hid (Below w.heap.size w zw60) := by show Below _ _ _; rw [← hx]; exact Kw6.out.drew
    have Zzw60 : Hid (w6.heap.size ≤ zw60.heap.size) := by show _ ≤ _; rw [← hx]; exact Nat.le_refl _
    have OOzw60 : Hid (RingOwn lo hi zw60 (.agg #[.slice g1 n1 c1, .slice g2 n2 c2]) x) := by have h9 := OOw6.out.below (Below.refl _ _).drew; rw [hx] at h9; exact h9
    have Nbrzw60 : Hid (zw60.heap[w.heap.size]? = some (.cells #[.slice none 0 0, .slice none 0 0] 26 (0, 0))) := by show _ = _; rw [← hx]; exact Nbrw6.out
    have Nbtzw60 : Hid (zw60.heap[w.heap.size + 1]? = some (.cells #[.string ⟨#[]⟩, .int .i64 0, .string ⟨#[]⟩] 28 (0, 0))) := by show _ = _; rw [← hx]; exact Nbtw6.out
    have Nbxzw60 : Hid (zw60.heap[hi]? = some (.cells #[.slice g1 n1 c1, .slice g2 n2 c2] 26 (0, 0))) := by show _ = _; rw [← hx]; exact Nbxw6.out
    have Nb8zw60 : Hid (zw60.heap[b8]? = some (.cells #[.string rk, .int .i64 tf, .string ts] 28 (0, 0))) := by show _ = _; rw [← hx]; exact Nb8w6.out
    rw [hx]
    clear hx
    refine wpAnyH_ready (rs := [2]) (by kernel_rfl) (by simp) ?_
    refine AllReadyH.cons rfl (fun K hK => ?_) AllReadyH.nil
    refine step_store_row rfl 26 (.tmp 2) (.tmp 41) rfl (w.heap.size) #[.slice g1 n1 c1, .slice g2 n2 c2] rfl rfl 26 _ Nbrzw60.out (by kernel_rfl) rfl (by simp [Value.oneCell']) rfl ?_
    obtain ⟨zw61, hx⟩ : ∃ X, zw60.setRow (w.heap.size) #[.slice g1 n1 c1, .slice g2 n2 c2] = X := ⟨_, rfl⟩
    have Kzw61 : Hid (Below w.heap.size w zw61) := by show Below _ _ _; rw [← hx]; exact below_setRow Kzw60.out HQbr.out _
    have Zzw61 : Hid (zw61.heap.size = zw60.heap.size) := by show _ = _; rw [← hx]; simp
    have zzw60 := Zzw60.out
    have OOzw61 : Hid (RingOwn lo hi zw61 (.agg #[.slice g1 n1 c1, .slice g2 n2 c2]) x) := by have h9 := OOzw60.out; simp only [Hid] at h9 ⊢; rw [← hx]; exact h9.setRowR Nbrzw60.out _
    have Nbrzw61 : Hid (zw61.heap[w.heap.size]? = some (.cells #[.slice g1 n1 c1, .slice g2 n2 c2] 26 (0, 0))) := by show _ = _; rw [← hx]; exact setRow_heap _ _ _ _ _ _ Nbrzw60.out
    have Nbtzw61 : Hid (zw61.heap[w.heap.size + 1]? = some (.cells #[.string ⟨#[]⟩, .int .i64 0, .string ⟨#[]⟩] 28 (0, 0))) := by show _ = _; rw [← hx]; exact (setRow_other _ _ _ _ (by omega)).trans Nbtzw60.out
    have Nbxzw61 : Hid (zw61.heap[hi]? = some (.cells #[.slice g1 n1 c1, .slice g2 n2 c2] 26 (0, 0))) := by show _ = _; rw [← hx]; exact (setRow_other _ _ _ _ (by omega)).trans Nbxzw60.out
    have Nb8zw61 : Hid (zw61.heap[b8]? = some (.cells #[.string rk, .int .i64 tf, .string ts] 28 (0, 0))) := by show _ = _; rw [← hx]; exact (setRow_other _ _ _ _ (by omega)).trans Nb8zw60.out
    clear zzw60
    rw [hx]
    clear hx
    refine hK.out _ _ ?_ (fun hHeld => ?_)
    · exact ⟨by show zw61.cell? ⟨hi, 0, none⟩ = _; rw [cell_of_row _ _ 0 _ _ _ Nbxzw61.out]; rfl, by show zw61.cell? ⟨hi, 1, none⟩ = _; rw [cell_of_row _ _ 1 _ _ _ Nbxzw61.out]; rfl, by show zw61.cell? ⟨b8, 0, none⟩ = _; rw [cell_of_row _ _ 0 _ _ _ Nb8zw61.out]; rfl, by show zw61.cell? ⟨b8, 1, none⟩ = _; rw [cell_of_row _ _ 1 _ _ _ Nb8zw61.out]; rfl, by show zw61.cell? ⟨b8, 2, none⟩ = _; rw [cell_of_row _ _ 2 _ _ _ Nb8zw61.out]; rfl⟩
    clear hK K
    try simp only [Act.put, List.setIfInBounds_toArray, List.set_cons_zero, List.set_cons_succ]
    refine wpAnyH_ready (rs := [3]) (by kernel_rfl) (by simp) ?_
    refine AllReadyH.cons rfl (fun K hK => ?_) AllReadyH.nil
    refine step_store_row rfl 28 (.tmp 3) (.tmp 42) rfl (w.heap.size + 1) #[.string rk, .int .i64 tf, .string ts] rfl rfl 28 _ Nbtzw61.out (by kernel_rfl) rfl (by simp [Value.oneCell']) rfl ?_
    obtain ⟨zw62, hx⟩ : ∃ X, zw61.setRow (w.heap.size + 1) #[.string rk, .int .i64 tf, .string ts] = X := ⟨_, rfl⟩
    have Kzw62 : Hid (Below w.heap.size w zw62) := by show Below _ _ _; rw [← hx]; exact below_setRow Kzw61.out HQbt.out _
    have Zzw62 : Hid (zw62.heap.size = zw61.heap.size) := by show _ = _; rw [← hx]; simp
    have zzw60 := Zzw60.out
    have zzw61 := Zzw61.out
    have OOzw62 : Hid (RingOwn lo hi zw62 (.agg #[.slice g1 n1 c1, .slice g2 n2 c2]) x) := by have h9 := OOzw61.out; simp only [Hid] at h9 ⊢; rw [← hx]; exact h9.setRowT2 Nbtzw61.out _
    have Nbtzw62 : Hid (zw62.heap[w.heap.size + 1]? = some (.cells #[.string rk, .int .i64 tf, .string ts] 28 (0, 0))) := by show _ = _; rw [← hx]; exact setRow_heap _ _ _ _ _ _ Nbtzw61.out
    have Nbrzw62 : Hid (zw62.heap[w.heap.size]? = some (.cells #[.slice g1 n1 c1, .slice g2 n2 c2] 26 (0, 0))) := by show _ = _; rw [← hx]; exact (setRow_other _ _ _ _ (by omega)).trans Nbrzw61.out
    have Nbxzw62 : Hid (zw62.heap[hi]? = some (.cells #[.slice g1 n1 c1, .slice g2 n2 c2] 26 (0, 0))) := by show _ = _; rw [← hx]; exact (setRow_other _ _ _ _ (by omega)).trans Nbxzw61.out
    have Nb8zw62 : Hid (zw62.heap[b8]? = some (.cells #[.string rk, .int .i64 tf, .string ts] 28 (0, 0))) := by show _ = _; rw [← hx]; exact (setRow_other _ _ _ _ (by omega)).trans Nb8zw61.out
    clear zzw60
    clear zzw61
    rw [hx]
    clear hx
    refine hK.out _ _ ?_ (fun hHeld => ?_)
    · exact ⟨by show zw62.cell? ⟨hi, 0, none⟩ = _; rw [cell_of_row _ _ 0 _ _ _ Nbxzw62.out]; rfl, by show zw62.cell? ⟨hi, 1, none⟩ = _; rw [cell_of_row _ _ 1 _ _ _ Nbxzw62.out]; rfl, by show zw62.cell? ⟨b8, 0, none⟩ = _; rw [cell_of_row _ _ 0 _ _ _ Nb8zw62.out]; rfl, by show zw62.cell? ⟨b8, 1, none⟩ = _; rw [cell_of_row _ _ 1 _ _ _ Nb8zw62.out]; rfl, by show zw62.cell? ⟨b8, 2, none⟩ = _; rw [cell_of_row _ _ 2 _ _ _ Nb8zw62.out]; rfl⟩
    clear hK K
    try simp only [Act.put, List.setIfInBounds_toArray, List.set_cons_zero, List.set_cons_succ]
    refine wpAnyH_done (by kernel_rfl) ?_ _
    have r0 : zw62.cell? ⟨w.heap.size, 0, none⟩ = some (.slice g1 n1 c1) := by rw [cell_of_row _ _ 0 _ _ _ Nbrzw62.out]; rfl
    have r1 : zw62.cell? ⟨w.heap.size, 1, none⟩ = some (.slice g2 n2 c2) := by rw [cell_of_row _ _ 1 _ _ _ Nbrzw62.out]; rfl
    have r2 : zw62.cell? ⟨w.heap.size + 1, 0, none⟩ = some (.string rk) := by rw [cell_of_row _ _ 0 _ _ _ Nbtzw62.out]; rfl
    have r3 : zw62.cell? ⟨w.heap.size + 1, 1, none⟩ = some (.int .i64 tf) := by rw [cell_of_row _ _ 1 _ _ _ Nbtzw62.out]; rfl
    have r4 : zw62.cell? ⟨w.heap.size + 1, 2, none⟩ = some (.string ts) := by rw [cell_of_row _ _ 2 _ _ _ Nbtzw62.out]; rfl
    go_wp2
    refine bodyPost_ret (v := .tuple #[.agg #[.slice g1 n1 c1, .slice g2 n2 c2], .agg #[.string rk, .int .i64 tf, .string ts]]) (by simp [results, Tryd.results5, go_sem, r0, r1, r2, r3, r4]) rfl ⟨_, _, _, _, _, _, x, rk, tf, ts, rfl, OOzw62.out.at, by have := HTK.out.1; omega, HTK.out.2.1, by have := HTK.out.2.2; omega, Kzw62.out⟩
end Go.Proofs.YtdjpeickokoclaaDoor
/-
  The law FnRingTake.
-/
namespace Go.Proofs.YtdjpeickokoclaaDoor
open Go.RowKit
set_option linter.unusedVariables false
set_option linter.unusedSimpArgs false
theorem rtk_cases {x : RingM} {t : TurnM} : (ringOk x = false → rtkB x t = false) ∧ (ringOk x = true → rtkB x t = false → rtkT x t = x) ∧ (rtkB x t = true → rtkT x t = longT x t.1 t.2.1 ∧ ringOk (longT x t.1 t.2.1) = true ∧ sealT (lastK x) (turnB t.1 t.2.1) = t.2.2 ∧ rtkB (longT x t.1 t.2.1) t = false) := by
  refine ⟨fun h => (rtk_no1 t h).1, fun h hb => by unfold rtkT; rw [h, if_pos rfl, hb]; rfl, fun hb => ?_⟩
  have hb' := hb
  unfold rtkB at hb'
  simp only [Bool.and_eq_true, decide_eq_true_eq] at hb'
  obtain ⟨ht, hs⟩ := hb'
  have ht' := ht
  unfold tofB at ht'
  simp only [Bool.and_eq_true] at ht'
  obtain ⟨h1, h2⟩ := ht'
  refine ⟨by unfold rtkT; rw [h1, if_pos rfl, hb]; rfl, h2, ?_, ?_⟩
  · rw [(tof_yes h1 h2).2] at hs
    exact hs
  · have h3 : ringOk (longT (longT x t.1 t.2.1) t.1 t.2.1) = false := by
      refine ringOk_f fun hg => ?_
      have hk := hg.2.2.2.2.1 (x.1.length + 1) t.1 (by unfold longT; simp)
      exact hk.2 x.1.length (by omega) (by unfold longT; simp)
    unfold rtkB tofB
    rw [h3, Bool.and_false, Bool.false_and]
set_option maxRecDepth 100000 in
set_option maxHeartbeats 8000000 in
theorem fnRingTake_walk (a : Option Addr) (len cap : Nat) (zs : List Int) (w : World) (h : IsRow .u8 w a len cap zs) (hP : powTab w) (hR : roundTab w) (hF : firstTab w) :
    Calls Tryd.prog 3 #[.slice a len cap] w fun e w' => e = .returned (.bool true) ∧ Below w.heap.size w w' := by
  by_cases h1 : (1048576 : Int) < (len : Int)
  · clear h
    go_enter Tryd.func3, Tryd.ntmps3
    go_wp2
    go_ret
    exact ⟨rfl, Below.refl _ _⟩
  have HI : Hid (IsRow .u8 w a len cap zs) := h
  have HT : Hid (∀ V, Below w.heap.size w V → powTab V ∧ roundTab V ∧ firstTab V) := fun V hV => ⟨hP.below hV, hR.below hV, hF.below hV⟩
  clear h hP hR hF
  go_enter Tryd.func3, Tryd.ntmps3
  go_wp2_with fail
  refine (drawRingTake_any w a len cap zs HI.out).mono ?_
  rintro e w1 ⟨g1, n1, c1, g2, n2, c2, x, rk, rf, rs, rfl, hx, hk1, hf0, hf1, hb1⟩
  obtain ⟨w2, hw2⟩ : ∃ y, (w1.alloc (.cells #[.slice g1 n1 c1, .slice g2 n2 c2] 26)).alloc (.cells #[.string rk, .int .i64 rf, .string rs] 28) = y := ⟨_, rfl⟩
  have hb12 : Below w1.heap.size w1 w2 := by rw [← hw2]; exact ((Below.refl w1.heap.size w1).alloc (Nat.le_refl _) _).alloc (by simp) _
  have HRx : Hid (RingAt w2 (.agg #[.slice g1 n1 c1, .slice g2 n2 c2]) x) := hx.below hb12
  have HB2 : Hid (Below w.heap.size w w2) := hb1.trans (hb12.mono hb1.size)
  have hz2 : w2.heap.size = w1.heap.size + 1 + 1 := by rw [← hw2]; simp
  have hbx : w2.heap[w1.heap.size]? = some (.cells #[.slice g1 n1 c1, .slice g2 n2 c2] 26 (0, 0)) := by rw [← hw2]; exact heap_alloc2_old _ _ _
  have hbt : w2.heap[w1.heap.size + 1]? = some (.cells #[.string rk, .int .i64 rf, .string rs] 28 (0, 0)) := by rw [← hw2]; exact heap_alloc2_new _ _ _
  have HX : Hid (∀ V, Below w2.heap.size w2 V → (V.cell? ⟨w1.heap.size, 0, none⟩ = some (.slice g1 n1 c1) ∧ V.cell? ⟨w1.heap.size, 1, none⟩ = some (.slice g2 n2 c2)) ∧ V.cell? ⟨w1.heap.size + 1, 0, none⟩ = some (.string rk) ∧ V.cell? ⟨w1.heap.size + 1, 1, none⟩ = some (.int .i64 rf) ∧ V.cell? ⟨w1.heap.size + 1, 2, none⟩ = some (.string rs)) := fun V hb => by
    have e0 := (hb.block _ (by omega)).trans hbx
    have e1 := (hb.block _ (by omega)).trans hbt
    exact ⟨⟨by rw [cell_of_row _ _ 0 _ _ _ e0]; rfl, by rw [cell_of_row _ _ 1 _ _ _ e0]; rfl⟩, by rw [cell_of_row _ _ 0 _ _ _ e1]; rfl, by rw [cell_of_row _ _ 1 _ _ _ e1]; rfl, by rw [cell_of_row _ _ 2 _ _ _ e1]; rfl⟩
  obtain ⟨B, hB⟩ : ∃ b, rtkB x (rk, rf, rs) = b := ⟨_, rfl⟩
  obtain ⟨XT, hXT⟩ : ∃ y, rtkT x (rk, rf, rs) = y := ⟨_, rfl⟩
  have HBT : Hid (rtkB x (rk, rf, rs) = B ∧ rtkT x (rk, rf, rs) = XT) := ⟨hB, hXT⟩
  have hw2' := hw2
  clear hx hb1 hb12 hbx hbt hB hXT hz2
  obtain ⟨⟨x0, x1⟩, t0, t1, t2⟩ := HX.out w2 (Below.refl _ _)
  go_wp2_with fail
  try rw [hw2]
  clear hw2 hw2'
  refine (implRingTake_any w2 _ x rk rf rs HRx.out (by omega) (by omega) (by omega) (HT.out _ HB2.out).1 (HT.out _ HB2.out).2.1 (HT.out _ HB2.out).2.2).mono ?_
  rintro e w3 ⟨v3, rfl, ho3, hb3⟩
  rw [HBT.out.1]
  rw [HBT.out.2] at ho3
  obtain ⟨p1, k1, d1, p2, k2, d2, rfl⟩ := ho3.at.form2
  have H3 : Hid (RingAt w3 (.agg #[.slice p1 k1 d1, .slice p2 k2 d2]) XT) := ho3.at
  have B3 : Hid (Below w2.heap.size w2 w3) := hb3
  clear ho3 hb3 x0 x1 t0 t1 t2
  obtain ⟨w4, hw4⟩ : ∃ y, w3.alloc (.cells #[.slice p1 k1 d1, .slice p2 k2 d2] 26) = y := ⟨_, rfl⟩
  have hb4 : Below w3.heap.size w3 w4 := by rw [← hw4]; exact (Below.refl _ _).alloc (Nat.le_refl _) _
  have N4 : Hid (w4.heap[w3.heap.size]? = some (.cells #[.slice p1 k1 d1, .slice p2 k2 d2] 26 (0, 0))) := by show _ = _; rw [← hw4]; exact heap_alloc_last w3 _
  have H4 : Hid (RingAt w4 (.agg #[.slice p1 k1 d1, .slice p2 k2 d2]) XT) := H3.out.below hb4
  have B4 : Hid (Below w2.heap.size w2 w4) := B3.out.trans (hb4.mono B3.out.size)
  have HW4 : Hid (w3.alloc (.cells #[.slice p1 k1 d1, .slice p2 k2 d2] 26) = w4) := hw4
  clear hb4
  obtain ⟨⟨x0, x1⟩, t0, t1, t2⟩ := HX.out w4 B4.out
  go_wp2_with fail
  try rw [HW4.out]
  clear hw4
  refine (specRingTake_any w4 _ x rk rf rs (HRx.out.below B4.out) (by unfold maxLen; omega)).mono ?_
  rintro e w5 ⟨v5, rfl, ho5, hb5⟩
  rw [HBT.out.1]
  rw [HBT.out.2] at ho5
  obtain ⟨i1, l1, e1, i2, l2, e2, rfl⟩ := ho5.form2
  have H5 : Hid (RingAt w5 (.agg #[.slice i1 l1 e1, .slice i2 l2 e2]) XT) := ho5
  have B5 : Hid (Below w4.heap.size w4 w5) := hb5
  clear ho5 hb5 x0 x1 t0 t1 t2
  obtain ⟨w6, hw6⟩ : ∃ y, w5.alloc (.cells #[.slice i1 l1 e1, .slice i2 l2 e2] 26) = y := ⟨_, rfl⟩
  have hb6 : Below w5.heap.size w5 w6 := by rw [← hw6]; exact (Below.refl _ _).alloc (Nat.le_refl _) _
  have N6 : Hid (w6.heap[w5.heap.size]? = some (.cells #[.slice i1 l1 e1, .slice i2 l2 e2] 26 (0, 0))) := by show _ = _; rw [← hw6]; exact heap_alloc_last w5 _
  have B46 : Hid (Below w4.heap.size w4 w6) := B5.out.trans (hb6.mono B5.out.size)
  have B26 : Hid (Below w2.heap.size w2 w6) := B4.out.trans (B46.out.mono B4.out.size)
  have BW6 : Hid (Below w.heap.size w w6) := HB2.out.trans (B26.out.mono HB2.out.size)
  have HR65 : Hid (RingAt w6 (.agg #[.slice p1 k1 d1, .slice p2 k2 d2]) XT) := H4.out.below B46.out
  have HR67 : Hid (RingAt w6 (.agg #[.slice i1 l1 e1, .slice i2 l2 e2]) XT) := H5.out.below hb6
  have HR6x : Hid (RingAt w6 (.agg #[.slice g1 n1 c1, .slice g2 n2 c2]) x) := HRx.out.below B26.out
  have HC : Hid (∀ V, Below w6.heap.size w6 V → (V.cell? ⟨w1.heap.size, 0, none⟩ = some (.slice g1 n1 c1) ∧ V.cell? ⟨w1.heap.size, 1, none⟩ = some (.slice g2 n2 c2)) ∧ (V.cell? ⟨w1.heap.size + 1, 0, none⟩ = some (.string rk) ∧ V.cell? ⟨w1.heap.size + 1, 1, none⟩ = some (.int .i64 rf) ∧ V.cell? ⟨w1.heap.size + 1, 2, none⟩ = some (.string rs)) ∧ (V.cell? ⟨w3.heap.size, 0, none⟩ = some (.slice p1 k1 d1) ∧ V.cell? ⟨w3.heap.size, 1, none⟩ = some (.slice p2 k2 d2)) ∧ (V.cell? ⟨w5.heap.size, 0, none⟩ = some (.slice i1 l1 e1) ∧ V.cell? ⟨w5.heap.size, 1, none⟩ = some (.slice i2 l2 e2))) := fun V hV => by
    have h9 := HX.out V (B26.out.trans (hV.mono B26.out.size))
    have e4 := ((B46.out.trans (hV.mono B46.out.size)).block _ (Array.getElem?_eq_some_iff.1 N4.out).1).trans N4.out
    have e6 := (hV.block _ (Array.getElem?_eq_some_iff.1 N6.out).1).trans N6.out
    exact ⟨h9.1, h9.2, ⟨by rw [cell_of_row _ _ 0 _ _ _ e4]; rfl, by rw [cell_of_row _ _ 1 _ _ _ e4]; rfl⟩, ⟨by rw [cell_of_row _ _ 0 _ _ _ e6]; rfl, by rw [cell_of_row _ _ 1 _ _ _ e6]; rfl⟩⟩
  have HW6 : Hid (w5.alloc (.cells #[.slice i1 l1 e1, .slice i2 l2 e2] 26) = w6) := hw6
  have Kw6 : Hid (Below w6.heap.size w6 w6) := Below.refl _ _
  clear hb6
  cases hok : ringOk x with
  | false =>
    have hBf : B = false := by rw [← HBT.out.1]; exact rtk_cases.1 hok
    subst hBf
    obtain ⟨⟨x0, x1⟩, ⟨t0, t1, t2⟩, ⟨y0, y1⟩, ⟨z0, z1⟩⟩ := HC.out w6 Kw6.out
    go_wp2_with fail
    try rw [HW6.out]
    clear hw6
    refine (mdRing_same w6 _ _ XT (HR65.out.below Kw6.out) (HR67.out.below Kw6.out)).mono ?_
    rintro e w7 ⟨rfl, hb⟩
    have Kw7 : Hid (Below w6.heap.size w6 w7) := Kw6.out.trans (hb.mono Kw6.out.size)
    clear hb
    clear x0 x1 t0 t1 t2 y0 y1 z0 z1
    obtain ⟨⟨x0, x1⟩, ⟨t0, t1, t2⟩, ⟨y0, y1⟩, ⟨z0, z1⟩⟩ := HC.out w7 Kw7.out
    go_wp2_with fail
    refine (specRingOk_any w7 _ x (HR6x.out.below Kw7.out)).mono ?_
    rintro e w8 ⟨rfl, hb⟩
    rw [hok]
    have Kw8 : Hid (Below w6.heap.size w6 w8) := Kw7.out.trans (hb.mono Kw7.out.size)
    clear hb
    clear x0 x1 t0 t1 t2 y0 y1 z0 z1
    obtain ⟨⟨x0, x1⟩, ⟨t0, t1, t2⟩, ⟨y0, y1⟩, ⟨z0, z1⟩⟩ := HC.out w8 Kw8.out
    go_wp2_with fail
    refine (mdRing_same w8 _ _ XT (HR65.out.below Kw8.out) (HR67.out.below Kw8.out)).mono ?_
    rintro e w9 ⟨rfl, hb⟩
    have Kw9 : Hid (Below w6.heap.size w6 w9) := Kw8.out.trans (hb.mono Kw8.out.size)
    clear hb
    clear x0 x1 t0 t1 t2 y0 y1 z0 z1
    go_wp2
    go_ret
    exact ⟨rfl, BW6.out.trans (Kw9.out.mono BW6.out.size)⟩
  | true =>
    cases B with
    | false =>
      have hXx : XT = x := by rw [← HBT.out.2]; exact rtk_cases.2.1 hok HBT.out.1
      obtain ⟨⟨x0, x1⟩, ⟨t0, t1, t2⟩, ⟨y0, y1⟩, ⟨z0, z1⟩⟩ := HC.out w6 Kw6.out
      go_wp2_with fail
      try rw [HW6.out]
      clear hw6
      refine (mdRing_same w6 _ _ XT (HR65.out.below Kw6.out) (HR67.out.below Kw6.out)).mono ?_
      rintro e w7 ⟨rfl, hb⟩
      have Kw7 : Hid (Below w6.heap.size w6 w7) := Kw6.out.trans (hb.mono Kw6.out.size)
      clear hb
      clear x0 x1 t0 t1 t2 y0 y1 z0 z1
      obtain ⟨⟨x0, x1⟩, ⟨t0, t1, t2⟩, ⟨y0, y1⟩, ⟨z0, z1⟩⟩ := HC.out w7 Kw7.out
      go_wp2_with fail
      refine (specRingOk_any w7 _ x (HR6x.out.below Kw7.out)).mono ?_
      rintro e w8 ⟨rfl, hb⟩
      rw [hok]
      have Kw8 : Hid (Below w6.heap.size w6 w8) := Kw7.out.trans (hb.mono Kw7.out.size)
      clear hb
      clear x0 x1 t0 t1 t2 y0 y1 z0 z1
      obtain ⟨⟨x0, x1⟩, ⟨t0, t1, t2⟩, ⟨y0, y1⟩, ⟨z0, z1⟩⟩ := HC.out w8 Kw8.out
      go_wp2_with fail
      refine (mdRing_same w8 _ _ x (by have h9 := HR65.out.below Kw8.out; rw [hXx] at h9; exact h9) (HR6x.out.below Kw8.out)).mono ?_
      rintro e w9 ⟨rfl, hb⟩
      have Kw9 : Hid (Below w6.heap.size w6 w9) := Kw8.out.trans (hb.mono Kw8.out.size)
      clear hb
      clear x0 x1 t0 t1 t2 y0 y1 z0 z1
      go_wp2
      go_ret
      exact ⟨rfl, BW6.out.trans (Kw9.out.mono BW6.out.size)⟩
    | true =>
      obtain ⟨m1, m2, m3, m4⟩ := rtk_cases.2.2 HBT.out.1
      rw [← m1, HBT.out.2] at m2 m4
      rw [HBT.out.2] at m1
      have HL : Hid (XT = longT x rk rf) := m1
      have HOKX : Hid (ringOk XT = true) := m2
      have HS : Hid (sealT (lastK x) (turnB rk rf) = rs) := m3
      have HN : Hid (rtkB XT (rk, rf, rs) = false) := m4
      have HG : Hid (RingGood x) := ringOk_good hok
      clear m1 m2 m3 m4
      obtain ⟨va, vn, hv, hta, hti⟩ := HR6x.out
      cases hv
      obtain ⟨_, _, hv1, hc1, hm1⟩ := hta.form
      cases hv1
      obtain ⟨ml, hml⟩ : ∃ m, x.1.length = m + 1 := ⟨x.1.length - 1, by have := HG.out.1; omega⟩
      obtain ⟨b1, off1, cp1, kk, hv, hbl1, hkk, hkf, y1⟩ := hta.at (k := ml) (by omega)
      cases hv
      obtain ⟨b3, off3, cp3, k0, hv, hbl3, hkk0, hkf0, y2⟩ := hta.at (k := 0) (by omega)
      cases hv
      have HEL : Hid (∀ V, Below w6.heap.size w6 V → V.cell? ⟨b1, off1 + ml, none⟩ = some (.string kk) ∧ V.cell? ⟨b1, off1, none⟩ = some (.string k0)) := fun V hV => ⟨(hV.cell (p := ⟨b1, off1 + ml, none⟩) hbl1).trans y1, (hV.cell (p := ⟨b1, off1, none⟩) hbl3).trans y2⟩
      have HGX : Hid (RingGood XT) := ringOk_good HOKX.out
      have hgl : x.2.length = x.1.length := HG.out.2.2.1
      have HE1 : Hid (rkT XT rf = rk) := rk_at493 (i := x.1.length) HOKX.out (by rw [HL.out]; unfold longT; simp) (by rw [HL.out]; unfold longT; rw [← hgl]; simp)
      obtain ⟨rf1, hrf1⟩ : ∃ z, rf - 1 = z := ⟨_, rfl⟩
      have HE2 : Hid (rkT XT rf1 = kk) := by
        show _ = _
        rw [← hrf1]
        refine rk_ahead493 (i := ml) HOKX.out (by rw [HL.out]; unfold longT; rw [List.getElem?_append_left (by omega)]; exact hkk) (by rw [HL.out]; unfold longT; rw [← hml, ← hgl]; simp)
      have HE3 : Hid (rkT XT 1 = k0) := rk_at493 (i := 0) HOKX.out (by rw [HL.out]; unfold longT; rw [List.getElem?_append_left (by omega)]; exact hkk0) HGX.out.2.2.2.1
      have q1 : IntKind.i64.wrap ((x.1.length : Int) - 1) = (ml : Int) := by have := HG.out.2.1; rw [IntWalk.i64_in _ (by omega)]; omega
      have q2 : IntKind.i64.wrap (rf - 1) = rf1 := by rw [← hrf1]; exact IntWalk.i64_in _ (by omega)
      have hma : (0 : Int) ≤ (ml : Int) := by omega
      have hmb : (ml : Int) < (x.1.length : Int) := by omega
      have hmc : ml < x.1.length := by omega
      have hmd : 0 < x.1.length := by omega
      have hme : x.1 ≠ [] := fun e => by rw [e] at hmd; exact absurd hmd (by simp)
      clear hta hti hml hbl1 hkk hkf y1 hbl3 hkk0 hkf0 y2 hrf1 hgl hc1 hm1
      obtain ⟨⟨x0, x1⟩, ⟨t0, t1, t2⟩, ⟨y0, y1⟩, ⟨z0, z1⟩⟩ := HC.out w6 Kw6.out
      go_wp2_with fail
      try rw [HW6.out]
      clear hw6
      refine (mdRing_same w6 _ _ XT (HR65.out.below Kw6.out) (HR67.out.below Kw6.out)).mono ?_
      rintro e w7 ⟨rfl, hb⟩
      have Kw7 : Hid (Below w6.heap.size w6 w7) := Kw6.out.trans (hb.mono Kw6.out.size)
      clear hb
      clear x0 x1 t0 t1 t2 y0 y1 z0 z1
      obtain ⟨⟨x0, x1⟩, ⟨t0, t1, t2⟩, ⟨y0, y1⟩, ⟨z0, z1⟩⟩ := HC.out w7 Kw7.out
      go_wp2_with fail
      refine (specRingOk_any w7 _ x (HR6x.out.below Kw7.out)).mono ?_
      rintro e w8 ⟨rfl, hb⟩
      rw [hok]
      have Kw8 : Hid (Below w6.heap.size w6 w8) := Kw7.out.trans (hb.mono Kw7.out.size)
      clear hb
      clear x0 x1 t0 t1 t2 y0 y1 z0 z1
      obtain ⟨⟨x0, x1⟩, ⟨t0, t1, t2⟩, ⟨y0, y1⟩, ⟨z0, z1⟩⟩ := HC.out w8 Kw8.out
      go_wp2_with fail
      refine (implRingTake_any w8 _ XT rk rf rs (HR65.out.below Kw8.out) (by omega) (by omega) (by omega) (HT.out _ (BW6.out.trans (Kw8.out.mono BW6.out.size))).1 (HT.out _ (BW6.out.trans (Kw8.out.mono BW6.out.size))).2.1 (HT.out _ (BW6.out.trans (Kw8.out.mono BW6.out.size))).2.2).mono ?_
      rintro e w9 ⟨v9, rfl, ho9, hb9⟩
      rw [HN.out]
      obtain ⟨j1, r1, s1, j2, r2, s2, rfl⟩ := ho9.at.form2
      have Kw9 : Hid (Below w6.heap.size w6 w9) := Kw8.out.trans (hb9.mono Kw8.out.size)
      clear ho9 hb9
      clear x0 x1 t0 t1 t2 y0 y1 z0 z1
      obtain ⟨w11, hw11⟩ : ∃ y, (w9.alloc (.cells #[.slice j1 r1 s1, .slice j2 r2 s2] 26)).alloc (.cells #[.string rk, .int .i64 rf, .string rs] 28) = y := ⟨_, rfl⟩
      have hb11 : Below w9.heap.size w9 w11 := by rw [← hw11]; exact ((Below.refl _ _).alloc (Nat.le_refl _) _).alloc (by simp) _
      have N11 : Hid (w11.heap[w9.heap.size + 1]? = some (.cells #[.string rk, .int .i64 rf, .string rs] 28 (0, 0))) := by show _ = _; rw [← hw11]; exact heap_alloc2_new _ _ _
      have Kw11 : Hid (Below w6.heap.size w6 w11) := Kw9.out.trans (hb11.mono Kw9.out.size)
      have HW11 : Hid ((w9.alloc (.cells #[.slice j1 r1 s1, .slice j2 r2 s2] 26)).alloc (.cells #[.string rk, .int .i64 rf, .string rs] 28) = w11) := hw11
      clear hb11 hw11
      have KAL : Below w6.heap.size w6 (w9.alloc (.cells #[.slice j1 r1 s1, .slice j2 r2 s2] 26)) := Kw9.out.alloc Kw9.out.size _
      obtain ⟨⟨x0, x1⟩, ⟨t0, t1, t2⟩, ⟨y0, y1⟩, ⟨z0, z1⟩⟩ := HC.out (w9.alloc (.cells #[.slice j1 r1 s1, .slice j2 r2 s2] 26)) KAL
      obtain ⟨l0, l1'⟩ := HEL.out (w9.alloc (.cells #[.slice j1 r1 s1, .slice j2 r2 s2] 26)) KAL
      clear KAL
      go_wp2_with fail
      try rw [HW11.out]
      clear l0 l1'
      clear x0 x1 t0 t1 t2 y0 y1 z0 z1
      refine (implSealOf_any w11 ⟨#[110, 111, 98, 111, 100, 121]⟩ ⟨#[116, 117, 114, 110]⟩ (by unfold maxLen; decide) (by decide) (HT.out _ (BW6.out.trans (Kw11.out.mono BW6.out.size))).2.1 (HT.out _ (BW6.out.trans (Kw11.out.mono BW6.out.size))).2.2).mono ?_
      obtain ⟨SL, hSL⟩ : ∃ s, sealT ⟨#[110, 111, 98, 111, 100, 121]⟩ ⟨#[116, 117, 114, 110]⟩ = s := ⟨_, rfl⟩
      rw [hSL]
      clear hSL
      rintro e w12 ⟨rfl, hb⟩
      have Kw12 : Hid (Below w6.heap.size w6 w12) := Kw11.out.trans (hb.mono Kw11.out.size)
      have N12 : Hid (w12.heap[w9.heap.size + 1]? = some (.cells #[.string rk, .int .i64 rf, .string rs] 28 (0, 0))) := (hb.block _ (Array.getElem?_eq_some_iff.1 N11.out).1).trans N11.out
      clear hb
      have u0 : w12.cell? ⟨w9.heap.size + 1, 0, none⟩ = some (.string rk) := by rw [cell_of_row _ _ 0 _ _ _ N12.out]; rfl
      have u1 : w12.cell? ⟨w9.heap.size + 1, 1, none⟩ = some (.int .i64 rf) := by rw [cell_of_row _ _ 1 _ _ _ N12.out]; rfl
      have u2 : w12.cell? ⟨w9.heap.size + 1, 2, none⟩ = some (.string rs) := by rw [cell_of_row _ _ 2 _ _ _ N12.out]; rfl
      have u3 : w12.frozen? ⟨w9.heap.size + 1, 2, none⟩ = false := frozen_of_row _ _ 2 _ _ N12.out
      obtain ⟨w13, hw13⟩ : ∃ Y, w12.setCell ⟨w9.heap.size + 1, 2, none⟩ (.string SL) = Y := ⟨_, rfl⟩
      have N13 : Hid (w13.heap[w9.heap.size + 1]? = some (.cells #[.string rk, .int .i64 rf, .string SL] 28 (0, 0))) := by show _ = _; rw [← hw13]; exact box32_494 N12.out _
      have h69 : w6.heap.size ≤ w9.heap.size := Kw9.out.size
      have Kw13 : Hid (Below w6.heap.size w6 w13) := by show Below _ _ _; rw [← hw13]; exact Kw12.out.setCell (p := ⟨w9.heap.size + 1, 2, none⟩) (by show w6.heap.size ≤ w9.heap.size + 1; omega) _
      have HW13 : Hid (w12.setCell ⟨w9.heap.size + 1, 2, none⟩ (.string SL) = w13) := hw13
      obtain ⟨⟨x0, x1⟩, ⟨t0, t1, t2⟩, ⟨y0, y1⟩, ⟨z0, z1⟩⟩ := HC.out w13 Kw13.out
      have a0 : w13.cell? ⟨w9.heap.size + 1, 0, none⟩ = some (.string rk) := by rw [cell_of_row _ _ 0 _ _ _ N13.out]; rfl
      have a1 : w13.cell? ⟨w9.heap.size + 1, 1, none⟩ = some (.int .i64 rf) := by rw [cell_of_row _ _ 1 _ _ _ N13.out]; rfl
      have a2 : w13.cell? ⟨w9.heap.size + 1, 2, none⟩ = some (.string SL) := by rw [cell_of_row _ _ 2 _ _ _ N13.out]; rfl
      clear h69
      go_wp2_with (rw [HW13.out])
      try rw [HW13.out]
      clear hw13 u0 u1 u2 u3 a0 a1 a2
      clear x0 x1 t0 t1 t2 y0 y1 z0 z1
      refine (implRingTake_any w13 _ x rk rf SL (HR6x.out.below Kw13.out) (by omega) (by omega) (by omega) (HT.out _ (BW6.out.trans (Kw13.out.mono BW6.out.size))).1 (HT.out _ (BW6.out.trans (Kw13.out.mono BW6.out.size))).2.1 (HT.out _ (BW6.out.trans (Kw13.out.mono BW6.out.size))).2.2).mono ?_
      rintro e w14 ⟨v14, rfl, ho14, hb14⟩
      obtain ⟨q1', q2', q3', q4', q5', q6', rfl⟩ := ho14.at.form2
      have K134 : Hid (Below w13.heap.size w13 w14) := hb14
      clear ho14 hb14
      obtain ⟨w15, hw15⟩ : ∃ y, w14.alloc (.cells #[.slice q1' q2' q3', .slice q4' q5' q6'] 26) = y := ⟨_, rfl⟩
      have K135 : Hid (Below w13.heap.size w13 w15) := by show Below _ _ _; rw [← hw15]; exact K134.out.alloc K134.out.size _
      have HW15 : Hid (w14.alloc (.cells #[.slice q1' q2' q3', .slice q4' q5' q6'] 26) = w15) := hw15
      have K65 : Hid (Below w6.heap.size w6 w15) := Kw13.out.trans (K135.out.mono Kw13.out.size)
      have BW15 : Hid (Below w.heap.size w w15) := BW6.out.trans (K65.out.mono BW6.out.size)
      have HR5X : Hid (RingAt w15 (.agg #[.slice p1 k1 d1, .slice p2 k2 d2]) XT) := HR65.out.below K65.out
      have HY : Hid (∀ V, Below w15.heap.size w15 V → V.cell? ⟨w1.heap.size, 0, none⟩ = some (.slice (some ⟨b1, off1, none⟩) x.1.length c1) ∧ V.cell? ⟨w1.heap.size, 1, none⟩ = some (.slice g2 n2 c2) ∧ V.cell? ⟨w1.heap.size + 1, 0, none⟩ = some (.string rk) ∧ V.cell? ⟨w1.heap.size + 1, 1, none⟩ = some (.int .i64 rf) ∧ V.cell? ⟨w1.heap.size + 1, 2, none⟩ = some (.string rs) ∧ V.cell? ⟨w3.heap.size, 0, none⟩ = some (.slice p1 k1 d1) ∧ V.cell? ⟨w3.heap.size, 1, none⟩ = some (.slice p2 k2 d2) ∧ V.cell? ⟨w9.heap.size + 1, 2, none⟩ = some (.string SL) ∧ V.cell? ⟨b1, off1, none⟩ = some (.string k0)) := fun V hV => by
        have h8 := HC.out V (K65.out.trans (hV.mono K65.out.size))
        have h9 := HEL.out V (K65.out.trans (hV.mono K65.out.size))
        have e9 := ((K135.out.trans (hV.mono K135.out.size)).block _ (Array.getElem?_eq_some_iff.1 N13.out).1).trans N13.out
        exact ⟨h8.1.1, h8.1.2, h8.2.1.1, h8.2.1.2.1, h8.2.1.2.2, h8.2.2.1.1, h8.2.2.1.2, by rw [cell_of_row _ _ 2 _ _ _ e9]; rfl, h9.2⟩
      clear hw15
      have Kw15 : Hid (Below w15.heap.size w15 w15) := Below.refl _ _
      cases hB2 : rtkB x (rk, rf, SL) with
      | false =>
        go_wp2_with fail
        try rw [HW15.out]
        refine wp_region_held_drew (S := (fun w' => w'.cell? ⟨w1.heap.size, 0, none⟩ = some (.slice (some ⟨b1, off1, none⟩) x.1.length c1) ∧ w'.cell? ⟨w1.heap.size, 1, none⟩ = some (.slice g2 n2 c2) ∧ w'.cell? ⟨w1.heap.size + 1, 0, none⟩ = some (.string rk) ∧ w'.cell? ⟨w1.heap.size + 1, 1, none⟩ = some (.int .i64 rf) ∧ w'.cell? ⟨w1.heap.size + 1, 2, none⟩ = some (.string rs) ∧ w'.cell? ⟨w3.heap.size, 0, none⟩ = some (.slice p1 k1 d1) ∧ w'.cell? ⟨w3.heap.size, 1, none⟩ = some (.slice p2 k2 d2) ∧ w'.cell? ⟨w9.heap.size + 1, 2, none⟩ = some (.string SL) ∧ w'.cell? ⟨b1, off1, none⟩ = some (.string k0))) (by kernel_rfl) ?_ (fun hHeld => ?_)
        · exact HY.out w15 (Below.refl _ _)
        refine tk 0 85 (.agg #[.slice p1 k1 d1, .slice p2 k2 d2]) ?_
        simp only [Act.put, List.setIfInBounds_toArray, List.set_cons_zero, List.set_cons_succ]
        obtain ⟨f0, hx⟩ : ∃ X, World.drew w15 = X := ⟨_, rfl⟩
        have Kf0 : Hid (Below w15.heap.size w15 f0) := by show Below _ _ _; rw [← hx]; exact (Below.refl _ _).drew
        have Zf0 : Hid (w15.heap.size ≤ f0.heap.size) := by show _ ≤ _; rw [← hx]; exact Nat.le_refl _
        rw [hx]
        clear hx
        refine wpAnyH_ready (rs := [1]) (by kernel_rfl) (by simp) ?_
        refine AllReadyH.cons rfl (fun K hK => ?_) AllReadyH.nil
        go_simp
        refine (implRingOk_any f0 _ XT (HR5X.out.below Kf0.out)).mono ?_
        rintro e f1 ⟨rfl, hb⟩
        rw [HOKX.out]
        have Zf1 : Hid (f0.heap.size ≤ f1.heap.size) := hb.size
        have Kf1 : Hid (Below w15.heap.size w15 f1) := Kf0.out.trans (hb.mono Kf0.out.size)
        clear hb
        refine hK.out _ _ ?_ (fun hHeld => ?_)
        · exact HY.out _ Kf1.out
        clear hK K
        try simp only [Act.put, List.setIfInBounds_toArray, List.set_cons_zero, List.set_cons_succ]
        refine tk 2 87 (.bool true) ?_
        simp only [Act.put, List.setIfInBounds_toArray, List.set_cons_zero, List.set_cons_succ]
        refine tk 3 88 (.bool false) ?_
        simp only [Act.put, List.setIfInBounds_toArray, List.set_cons_zero, List.set_cons_succ]
        refine tk 4 89 (.bool true) ?_
        simp only [Act.put, List.setIfInBounds_toArray, List.set_cons_zero, List.set_cons_succ]
        refine tk 5 90 (.bool true) ?_
        simp only [Act.put, List.setIfInBounds_toArray, List.set_cons_zero, List.set_cons_succ]
        refine tk 6 91 (.bool true) ?_
        simp only [Act.put, List.setIfInBounds_toArray, List.set_cons_zero, List.set_cons_succ]
        refine tk 7 92 (.bool false) ?_
        simp only [Act.put, List.setIfInBounds_toArray, List.set_cons_zero, List.set_cons_succ]
        refine tk 8 93 (.bool true) ?_
        simp only [Act.put, List.setIfInBounds_toArray, List.set_cons_zero, List.set_cons_succ]
        refine tk 9 94 (.bool true) ?_
        simp only [Act.put, List.setIfInBounds_toArray, List.set_cons_zero, List.set_cons_succ]
        refine sk 10 95 ?_
        simp only [Act.put, List.setIfInBounds_toArray, List.set_cons_zero, List.set_cons_succ]
        refine sk 11 96 ?_
        simp only [Act.put, List.setIfInBounds_toArray, List.set_cons_zero, List.set_cons_succ]
        refine sk 12 97 ?_
        simp only [Act.put, List.setIfInBounds_toArray, List.set_cons_zero, List.set_cons_succ]
        refine sk 13 98 ?_
        simp only [Act.put, List.setIfInBounds_toArray, List.set_cons_zero, List.set_cons_succ]
        refine sk 14 99 ?_
        simp only [Act.put, List.setIfInBounds_toArray, List.set_cons_zero, List.set_cons_succ]
        refine tk 15 100 (.bool true) ?_
        simp only [Act.put, List.setIfInBounds_toArray, List.set_cons_zero, List.set_cons_succ]
        refine tk 16 101 (.bool true) ?_
        simp only [Act.put, List.setIfInBounds_toArray, List.set_cons_zero, List.set_cons_succ]
        refine tk 17 102 (.bool true) ?_
        simp only [Act.put, List.setIfInBounds_toArray, List.set_cons_zero, List.set_cons_succ]
        refine tk 18 103 (.agg #[.slice p1 k1 d1, .slice p2 k2 d2]) ?_
        simp only [Act.put, List.setIfInBounds_toArray, List.set_cons_zero, List.set_cons_succ]
        refine tk 19 104 (.pointer (some ⟨w1.heap.size + 1, 1, none⟩)) ?_
        simp only [Act.put, List.setIfInBounds_toArray, List.set_cons_zero, List.set_cons_succ]
        refine tk 20 105 (.int .i64 rf) ?_
        simp only [Act.put, List.setIfInBounds_toArray, List.set_cons_zero, List.set_cons_succ]
        refine tk 22 107 (.pointer (some ⟨w1.heap.size + 1, 0, none⟩)) ?_
        simp only [Act.put, List.setIfInBounds_toArray, List.set_cons_zero, List.set_cons_succ]
        refine tk 23 108 (.string rk) ?_
        simp only [Act.put, List.setIfInBounds_toArray, List.set_cons_zero, List.set_cons_succ]
        refine wpAnyH_ready (rs := [21]) (by kernel_rfl) (by simp) ?_
        refine AllReadyH.cons rfl (fun K hK => ?_) AllReadyH.nil
        go_simp
        refine (implRingKey_any f1 _ XT rf (HR5X.out.below Kf1.out)).mono ?_
        rintro e f2 ⟨rfl, hb⟩
        rw [HE1.out]
        have Zf2 : Hid (f1.heap.size ≤ f2.heap.size) := hb.size
        have Kf2 : Hid (Below w15.heap.size w15 f2) := Kf1.out.trans (hb.mono Kf1.out.size)
        clear hb
        refine hK.out _ _ ?_ (fun hHeld => ?_)
        · exact HY.out _ Kf2.out
        clear hK K
        try simp only [Act.put, List.setIfInBounds_toArray, List.set_cons_zero, List.set_cons_succ]
        refine tk 24 109 (.bool true) ?_
        simp only [Act.put, List.setIfInBounds_toArray, List.set_cons_zero, List.set_cons_succ]
        refine tk 25 110 (.bool true) ?_
        simp only [Act.put, List.setIfInBounds_toArray, List.set_cons_zero, List.set_cons_succ]
        refine tk 26 111 (.bool true) ?_
        simp only [Act.put, List.setIfInBounds_toArray, List.set_cons_zero, List.set_cons_succ]
        refine tk 27 112 (.agg #[.slice p1 k1 d1, .slice p2 k2 d2]) ?_
        simp only [Act.put, List.setIfInBounds_toArray, List.set_cons_zero, List.set_cons_succ]
        refine tk 28 113 (.pointer (some ⟨w1.heap.size + 1, 1, none⟩)) ?_
        simp only [Act.put, List.setIfInBounds_toArray, List.set_cons_zero, List.set_cons_succ]
        refine tk 29 114 (.int .i64 rf) ?_
        simp only [Act.put, List.setIfInBounds_toArray, List.set_cons_zero, List.set_cons_succ]
        refine tk 30 115 (.int .i64 rf1) ?_
        simp only [Act.put, List.setIfInBounds_toArray, List.set_cons_zero, List.set_cons_succ]
        refine tk 32 117 (.string kk) ?_
        simp only [Act.put, List.setIfInBounds_toArray, List.set_cons_zero, List.set_cons_succ]
        refine wpAnyH_ready (rs := [31]) (by kernel_rfl) (by simp) ?_
        refine AllReadyH.cons rfl (fun K hK => ?_) AllReadyH.nil
        go_simp
        refine (implRingKey_any f2 _ XT rf1 (HR5X.out.below Kf2.out)).mono ?_
        rintro e f3 ⟨rfl, hb⟩
        rw [HE2.out]
        have Zf3 : Hid (f2.heap.size ≤ f3.heap.size) := hb.size
        have Kf3 : Hid (Below w15.heap.size w15 f3) := Kf2.out.trans (hb.mono Kf2.out.size)
        clear hb
        refine hK.out _ _ ?_ (fun hHeld => ?_)
        · exact HY.out _ Kf3.out
        clear hK K
        try simp only [Act.put, List.setIfInBounds_toArray, List.set_cons_zero, List.set_cons_succ]
        refine tk 33 118 (.bool true) ?_
        simp only [Act.put, List.setIfInBounds_toArray, List.set_cons_zero, List.set_cons_succ]
        refine tk 34 119 (.bool true) ?_
        simp only [Act.put, List.setIfInBounds_toArray, List.set_cons_zero, List.set_cons_succ]
        refine tk 35 120 (.bool true) ?_
        simp only [Act.put, List.setIfInBounds_toArray, List.set_cons_zero, List.set_cons_succ]
        refine tk 36 121 (.agg #[.slice p1 k1 d1, .slice p2 k2 d2]) ?_
        simp only [Act.put, List.setIfInBounds_toArray, List.set_cons_zero, List.set_cons_succ]
        refine tk 38 123 (.pointer (some ⟨w1.heap.size, 0, none⟩)) ?_
        simp only [Act.put, List.setIfInBounds_toArray, List.set_cons_zero, List.set_cons_succ]
        refine tk 39 124 (.slice (some ⟨b1, off1, none⟩) x.1.length c1) ?_
        simp only [Act.put, List.setIfInBounds_toArray, List.set_cons_zero, List.set_cons_succ]
        refine tk 40 125 (.pointer (some ⟨b1, off1, none⟩)) ?_
        simp only [Act.put, List.setIfInBounds_toArray, List.set_cons_zero, List.set_cons_succ]
        refine tk 41 126 (.string k0) ?_
        simp only [Act.put, List.setIfInBounds_toArray, List.set_cons_zero, List.set_cons_succ]
        refine wpAnyH_ready (rs := [37]) (by kernel_rfl) (by simp) ?_
        refine AllReadyH.cons rfl (fun K hK => ?_) AllReadyH.nil
        go_simp
        refine (implRingKey_any f3 _ XT 1 (HR5X.out.below Kf3.out)).mono ?_
        rintro e f4 ⟨rfl, hb⟩
        rw [HE3.out]
        have Zf4 : Hid (f3.heap.size ≤ f4.heap.size) := hb.size
        have Kf4 : Hid (Below w15.heap.size w15 f4) := Kf3.out.trans (hb.mono Kf3.out.size)
        clear hb
        refine hK.out _ _ ?_ (fun hHeld => ?_)
        · exact HY.out _ Kf4.out
        clear hK K
        try simp only [Act.put, List.setIfInBounds_toArray, List.set_cons_zero, List.set_cons_succ]
        refine tk 42 127 (.bool true) ?_
        simp only [Act.put, List.setIfInBounds_toArray, List.set_cons_zero, List.set_cons_succ]
        refine tk 43 128 (.bool true) ?_
        simp only [Act.put, List.setIfInBounds_toArray, List.set_cons_zero, List.set_cons_succ]
        refine tk 44 2 (.bool true) ?_
        simp only [Act.put, List.setIfInBounds_toArray, List.set_cons_zero, List.set_cons_succ]
        refine wpAnyH_done (by kernel_rfl) ?_ _
        go_wp2
        go_ret
        exact ⟨rfl, BW15.out.trans (Kf4.out.mono BW15.out.size)⟩
      | true =>
        have hSE : SL = rs := by have h9 := (rtk_cases.2.2 hB2).2.2.1; exact h9.symm.trans HS.out
        have hsq : (SL.toList == rs.toList) = true := by rw [hSE]; simp
        clear hSE
        go_wp2_with fail
        try rw [HW15.out]
        refine wp_region_held_drew (S := (fun w' => w'.cell? ⟨w1.heap.size, 0, none⟩ = some (.slice (some ⟨b1, off1, none⟩) x.1.length c1) ∧ w'.cell? ⟨w1.heap.size, 1, none⟩ = some (.slice g2 n2 c2) ∧ w'.cell? ⟨w1.heap.size + 1, 0, none⟩ = some (.string rk) ∧ w'.cell? ⟨w1.heap.size + 1, 1, none⟩ = some (.int .i64 rf) ∧ w'.cell? ⟨w1.heap.size + 1, 2, none⟩ = some (.string rs) ∧ w'.cell? ⟨w3.heap.size, 0, none⟩ = some (.slice p1 k1 d1) ∧ w'.cell? ⟨w3.heap.size, 1, none⟩ = some (.slice p2 k2 d2) ∧ w'.cell? ⟨w9.heap.size + 1, 2, none⟩ = some (.string SL) ∧ w'.cell? ⟨b1, off1, none⟩ = some (.string k0))) (by kernel_rfl) ?_ (fun hHeld => ?_)
        · exact HY.out w15 (Below.refl _ _)
        refine tk 0 85 (.agg #[.slice p1 k1 d1, .slice p2 k2 d2]) ?_
        simp only [Act.put, List.setIfInBounds_toArray, List.set_cons_zero, List.set_cons_succ]
        obtain ⟨g0, hx⟩ : ∃ X, World.drew w15 = X := ⟨_, rfl⟩
        have Kg0 : Hid (Below w15.heap.size w15 g0) := by show Below _ _ _; rw [← hx]; exact (Below.refl _ _).drew
        have Zg0 : Hid (w15.heap.size ≤ g0.heap.size) := by show _ ≤ _; rw [← hx]; exact Nat.le_refl _
        rw [hx]
        clear hx
        refine wpAnyH_ready (rs := [1]) (by kernel_rfl) (by simp) ?_
        refine AllReadyH.cons rfl (fun K hK => ?_) AllReadyH.nil
        go_simp
        refine (implRingOk_any g0 _ XT (HR5X.out.below Kg0.out)).mono ?_
        rintro e g1 ⟨rfl, hb⟩
        rw [HOKX.out]
        have Zg1 : Hid (g0.heap.size ≤ g1.heap.size) := hb.size
        have Kg1 : Hid (Below w15.heap.size w15 g1) := Kg0.out.trans (hb.mono Kg0.out.size)
        clear hb
        refine hK.out _ _ ?_ (fun hHeld => ?_)
        · exact HY.out _ Kg1.out
        clear hK K
        try simp only [Act.put, List.setIfInBounds_toArray, List.set_cons_zero, List.set_cons_succ]
        refine tk 2 87 (.bool true) ?_
        simp only [Act.put, List.setIfInBounds_toArray, List.set_cons_zero, List.set_cons_succ]
        refine tk 3 88 (.bool false) ?_
        simp only [Act.put, List.setIfInBounds_toArray, List.set_cons_zero, List.set_cons_succ]
        refine tk 4 89 (.bool true) ?_
        simp only [Act.put, List.setIfInBounds_toArray, List.set_cons_zero, List.set_cons_succ]
        refine tk 5 90 (.bool true) ?_
        simp only [Act.put, List.setIfInBounds_toArray, List.set_cons_zero, List.set_cons_succ]
        refine tk 6 91 (.bool true) ?_
        simp only [Act.put, List.setIfInBounds_toArray, List.set_cons_zero, List.set_cons_succ]
        refine tk 7 92 (.bool true) ?_
        simp only [Act.put, List.setIfInBounds_toArray, List.set_cons_zero, List.set_cons_succ]
        refine tk 8 93 (.bool false) ?_
        simp only [Act.put, List.setIfInBounds_toArray, List.set_cons_zero, List.set_cons_succ]
        refine tk 9 94 (.bool false) ?_
        simp only [Act.put, List.setIfInBounds_toArray, List.set_cons_zero, List.set_cons_succ]
        refine tk 10 95 (.pointer (some ⟨w9.heap.size + 1, 2, none⟩)) ?_
        simp only [Act.put, List.setIfInBounds_toArray, List.set_cons_zero, List.set_cons_succ]
        refine tk 11 96 (.string SL) ?_
        simp only [Act.put, List.setIfInBounds_toArray, List.set_cons_zero, List.set_cons_succ]
        refine tk 12 97 (.pointer (some ⟨w1.heap.size + 1, 2, none⟩)) ?_
        simp only [Act.put, List.setIfInBounds_toArray, List.set_cons_zero, List.set_cons_succ]
        refine tk 13 98 (.string rs) ?_
        simp only [Act.put, List.setIfInBounds_toArray, List.set_cons_zero, List.set_cons_succ]
        refine tk 14 99 (.bool true) ?_
        simp only [Act.put, List.setIfInBounds_toArray, List.set_cons_zero, List.set_cons_succ]
        refine tk 15 100 (.bool true) ?_
        simp only [Act.put, List.setIfInBounds_toArray, List.set_cons_zero, List.set_cons_succ]
        refine tk 16 101 (.bool true) ?_
        simp only [Act.put, List.setIfInBounds_toArray, List.set_cons_zero, List.set_cons_succ]
        refine tk 17 102 (.bool true) ?_
        simp only [Act.put, List.setIfInBounds_toArray, List.set_cons_zero, List.set_cons_succ]
        refine tk 18 103 (.agg #[.slice p1 k1 d1, .slice p2 k2 d2]) ?_
        simp only [Act.put, List.setIfInBounds_toArray, List.set_cons_zero, List.set_cons_succ]
        refine tk 19 104 (.pointer (some ⟨w1.heap.size + 1, 1, none⟩)) ?_
        simp only [Act.put, List.setIfInBounds_toArray, List.set_cons_zero, List.set_cons_succ]
        refine tk 20 105 (.int .i64 rf) ?_
        simp only [Act.put, List.setIfInBounds_toArray, List.set_cons_zero, List.set_cons_succ]
        refine tk 22 107 (.pointer (some ⟨w1.heap.size + 1, 0, none⟩)) ?_
        simp only [Act.put, List.setIfInBounds_toArray, List.set_cons_zero, List.set_cons_succ]
        refine tk 23 108 (.string rk) ?_
        simp only [Act.put, List.setIfInBounds_toArray, List.set_cons_zero, List.set_cons_succ]
        refine wpAnyH_ready (rs := [21]) (by kernel_rfl) (by simp) ?_
        refine AllReadyH.cons rfl (fun K hK => ?_) AllReadyH.nil
        go_simp
        refine (implRingKey_any g1 _ XT rf (HR5X.out.below Kg1.out)).mono ?_
        rintro e g2 ⟨rfl, hb⟩
        rw [HE1.out]
        have Zg2 : Hid (g1.heap.size ≤ g2.heap.size) := hb.size
        have Kg2 : Hid (Below w15.heap.size w15 g2) := Kg1.out.trans (hb.mono Kg1.out.size)
        clear hb
        refine hK.out _ _ ?_ (fun hHeld => ?_)
        · exact HY.out _ Kg2.out
        clear hK K
        try simp only [Act.put, List.setIfInBounds_toArray, List.set_cons_zero, List.set_cons_succ]
        refine tk 24 109 (.bool true) ?_
        simp only [Act.put, List.setIfInBounds_toArray, List.set_cons_zero, List.set_cons_succ]
        refine tk 25 110 (.bool true) ?_
        simp only [Act.put, List.setIfInBounds_toArray, List.set_cons_zero, List.set_cons_succ]
        refine tk 26 111 (.bool true) ?_
        simp only [Act.put, List.setIfInBounds_toArray, List.set_cons_zero, List.set_cons_succ]
        refine tk 27 112 (.agg #[.slice p1 k1 d1, .slice p2 k2 d2]) ?_
        simp only [Act.put, List.setIfInBounds_toArray, List.set_cons_zero, List.set_cons_succ]
        refine tk 28 113 (.pointer (some ⟨w1.heap.size + 1, 1, none⟩)) ?_
        simp only [Act.put, List.setIfInBounds_toArray, List.set_cons_zero, List.set_cons_succ]
        refine tk 29 114 (.int .i64 rf) ?_
        simp only [Act.put, List.setIfInBounds_toArray, List.set_cons_zero, List.set_cons_succ]
        refine tk 30 115 (.int .i64 rf1) ?_
        simp only [Act.put, List.setIfInBounds_toArray, List.set_cons_zero, List.set_cons_succ]
        refine tk 32 117 (.string kk) ?_
        simp only [Act.put, List.setIfInBounds_toArray, List.set_cons_zero, List.set_cons_succ]
        refine wpAnyH_ready (rs := [31]) (by kernel_rfl) (by simp) ?_
        refine AllReadyH.cons rfl (fun K hK => ?_) AllReadyH.nil
        go_simp
        refine (implRingKey_any g2 _ XT rf1 (HR5X.out.below Kg2.out)).mono ?_
        rintro e g3 ⟨rfl, hb⟩
        rw [HE2.out]
        have Zg3 : Hid (g2.heap.size ≤ g3.heap.size) := hb.size
        have Kg3 : Hid (Below w15.heap.size w15 g3) := Kg2.out.trans (hb.mono Kg2.out.size)
        clear hb
        refine hK.out _ _ ?_ (fun hHeld => ?_)
        · exact HY.out _ Kg3.out
        clear hK K
        try simp only [Act.put, List.setIfInBounds_toArray, List.set_cons_zero, List.set_cons_succ]
        refine tk 33 118 (.bool true) ?_
        simp only [Act.put, List.setIfInBounds_toArray, List.set_cons_zero, List.set_cons_succ]
        refine tk 34 119 (.bool true) ?_
        simp only [Act.put, List.setIfInBounds_toArray, List.set_cons_zero, List.set_cons_succ]
        refine tk 35 120 (.bool true) ?_
        simp only [Act.put, List.setIfInBounds_toArray, List.set_cons_zero, List.set_cons_succ]
        refine tk 36 121 (.agg #[.slice p1 k1 d1, .slice p2 k2 d2]) ?_
        simp only [Act.put, List.setIfInBounds_toArray, List.set_cons_zero, List.set_cons_succ]
        refine tk 38 123 (.pointer (some ⟨w1.heap.size, 0, none⟩)) ?_
        simp only [Act.put, List.setIfInBounds_toArray, List.set_cons_zero, List.set_cons_succ]
        refine tk 39 124 (.slice (some ⟨b1, off1, none⟩) x.1.length c1) ?_
        simp only [Act.put, List.setIfInBounds_toArray, List.set_cons_zero, List.set_cons_succ]
        refine tk 40 125 (.pointer (some ⟨b1, off1, none⟩)) ?_
        simp only [Act.put, List.setIfInBounds_toArray, List.set_cons_zero, List.set_cons_succ]
        refine tk 41 126 (.string k0) ?_
        simp only [Act.put, List.setIfInBounds_toArray, List.set_cons_zero, List.set_cons_succ]
        refine wpAnyH_ready (rs := [37]) (by kernel_rfl) (by simp) ?_
        refine AllReadyH.cons rfl (fun K hK => ?_) AllReadyH.nil
        go_simp
        refine (implRingKey_any g3 _ XT 1 (HR5X.out.below Kg3.out)).mono ?_
        rintro e g4 ⟨rfl, hb⟩
        rw [HE3.out]
        have Zg4 : Hid (g3.heap.size ≤ g4.heap.size) := hb.size
        have Kg4 : Hid (Below w15.heap.size w15 g4) := Kg3.out.trans (hb.mono Kg3.out.size)
        clear hb
        refine hK.out _ _ ?_ (fun hHeld => ?_)
        · exact HY.out _ Kg4.out
        clear hK K
        try simp only [Act.put, List.setIfInBounds_toArray, List.set_cons_zero, List.set_cons_succ]
        refine tk 42 127 (.bool true) ?_
        simp only [Act.put, List.setIfInBounds_toArray, List.set_cons_zero, List.set_cons_succ]
        refine tk 43 128 (.bool true) ?_
        simp only [Act.put, List.setIfInBounds_toArray, List.set_cons_zero, List.set_cons_succ]
        refine tk 44 2 (.bool true) ?_
        simp only [Act.put, List.setIfInBounds_toArray, List.set_cons_zero, List.set_cons_succ]
        refine wpAnyH_done (by kernel_rfl) ?_ _
        go_wp2
        go_ret
        exact ⟨rfl, BW15.out.trans (Kg4.out.mono BW15.out.size)⟩
end Go.Proofs.YtdjpeickokoclaaDoor
