/-
  impl.steps: all that one step makes of a word, told to a loop's body one by one.
-/
import Derived.Test.YtbkjbkdmanaohaaW96
import Derived.RangeFuncBox
namespace Go.Proofs.Ytbkjbkdmanaohaa
open Go.RowKit Go.Shelf
set_option linter.unusedVariables false
attribute [local go_sem] Oper.semAt_some
def stepsTo (s : ByteArray) (k : Nat) : List ByteArray := (List.range k).flatMap fun i => atAll (s.extract 0 i) (s.extract i s.size)
def stepsL (s : ByteArray) : List ByteArray := stepsTo s (s.size + 1)
theorem stepsTo_succ (s : ByteArray) (k : Nat) : stepsTo s (k + 1) = stepsTo s k ++ atAll (s.extract 0 k) (s.extract k s.size) := by
  unfold stepsTo; rw [List.range_succ, List.flatMap_append]; simp
theorem stepsTo_le (s : ByteArray) {k m : Nat} (h : k ≤ m) : (stepsTo s k).length ≤ (stepsTo s m).length := by
  induction h with
  | refl => exact Nat.le_refl _
  | step h ih => rw [stepsTo_succ, List.length_append]; omega
/-- What lay below a block lies, and a box keeps what it holds. -/
def KeptB (n₀ Bn : Nat) (W W' : World) : Prop := Below n₀ W W' ∧ ∀ v, Boxed W Bn 9 v → Boxed W' Bn 9 v
theorem KeptB.refl (n₀ Bn : Nat) (W : World) : KeptB n₀ Bn W W := ⟨Below.refl _ _, fun _ h => h⟩
theorem KeptB.trans {n₀ Bn : Nat} {A B C : World} (h : KeptB n₀ Bn A B) (k : KeptB n₀ Bn B C) : KeptB n₀ Bn A C := ⟨h.1.trans k.1, fun v hv => k.2 v (h.2 v hv)⟩
theorem boxed_drew {W : World} {B : Nat} {t : TypeId} {v : Value} (h : Boxed W B t v) : Boxed W.drew B t v := h
theorem KeptB.drew (n₀ Bn : Nat) (W : World) : KeptB n₀ Bn W W.drew := ⟨(Below.refl _ _).drew, fun _ h => h⟩
theorem KeptB.put {n₀ Bn : Nat} {w : World} (hn : n₀ ≤ w.heap.size) (W : World) (l : Nat) (o o' : Obj) (hl : w.heap.size ≤ l) (h : W.heap[l]? = some o) (hc : o.isCells = false) (hw : o.isWalk = false) : KeptB n₀ Bn W (W.putObj l o') :=
  ⟨belowK_b hn W l o o' hl h hc hw, fun v hv => hv.kept (grownBy_putObj' W l o') (fun e => by
    cases e
    rw [show W.heap[Bn]? = _ from hv] at h
    cases h
    cases hc)⟩
set_option maxRecDepth 100000 in
set_option maxHeartbeats 2000000 in
theorem steps1_in (l n₀ Bn N : Nat) (s : ByteArray) (hs : s.size ≤ 12) (hN : (stepsL s).length ≤ N) (J Jx : List ByteArray → World → Prop) (hD : ∀ pre W, J pre W → J pre W.drew)
    (hY : ∀ m pre x W, J pre W → pre.length < N → x.size ≤ 13 → YieldAt Fence.wide m Try.prog l #[.string x] W (YP (KeptB n₀ Bn) W J Jx pre x))
    (n : Nat) (W : World) (hB : Boxed W Bn 9 (.string s)) (hJ : J [] W) :
    CallsIn Fence.wide n Try.prog 66 #[.func (.yield l) #[] #[], .pointer (some ⟨Bn, 0, none⟩)] W fun e W' => (∃ v, e = .returned v) ∧ ((∃ ys, ys = stepsL s ∧ J ys W') ∨ (∃ pre, True ∧ Jx pre W')) := by
  have hdd : ∀ k : Nat, (Fence.wide.depth.isSome = true → 1 ≤ k) := fun k h => by cases h
  have hS : ∀ (k : Nat) (wr : World), k ≤ s.size → J (stepsTo s k) wr → CallsIn Fence.wide (n - 1) Try.prog 67 #[.string (s.extract 0 k), .string (s.extract k s.size), .func (.yield l) #[] #[]] wr.drew fun e W' =>
      ∃ b : Bool, e = .returned (.bool b) ∧ (b = true → J (stepsTo s (k + 1)) W' ∧ KeptB n₀ Bn wr W') ∧ (b = false → ∃ q, Jx q W') := fun k wr hk hj => by
    refine (stepsAt_in l N (KeptB n₀ Bn) (KeptB.refl _ _) KeptB.trans (KeptB.drew _ _) J Jx hD hY (n - 1) (s.extract 0 k) (s.extract k s.size) (stepsTo s k) wr.drew (hD _ _ hj) ?_ ?_).mono ?_
    · rw [← List.length_append, ← stepsTo_succ]
      exact Nat.le_trans (stepsTo_le s (by omega)) hN
    · simp only [ByteArray.size_extract]; omega
    · rintro e W' (⟨rfl, hj', hk'⟩ | ⟨rfl, hx⟩)
      · exact ⟨true, rfl, fun _ => ⟨by rw [stepsTo_succ]; exact hj', (KeptB.drew _ _ _).trans hk'⟩, fun h => (by cases h)⟩
      · exact ⟨false, rfl, fun h => (by cases h), fun _ => hx⟩
  have hc := hB.cell
  refine callsIn_of_wp Try.func66 rfl trivial ?_ rfl
  simp only [Try.ntmps66, List.size_toArray, List.length_cons, List.length_nil, Nat.reduceAdd, Nat.reduceSub, Array.replicate_succ, Array.replicate_zero, List.push_toArray, List.append_toArray, List.nil_append, List.cons_append]
  gi_wp2
  gi_loopw [3] (fun i wr => ∃ k : Nat, k ≤ s.size + 1 ∧ i = .int .i64 k ∧ J (stepsTo s k) wr ∧ KeptB n₀ Bn W wr) (fun i _ => s.size + 1 - (intOf i).toNat)
  case atStart => exact ⟨0, by omega, rfl, hJ, KeptB.refl _ _ _⟩
  case round =>
    obtain ⟨k, hk, rfl, hJ1, hK1⟩ := hrel
    have hc1 := (hK1.2 _ hB).cell
    by_cases hlt : k ≤ s.size
    · have hS1 := hS k wr hlt hJ1
      clear hS
      gi_wp2
      gi_region_with (refine ⟨trivial, hdd _, ?_⟩; refine hS1.mono ?_; clear hS1; rintro e W3 ⟨b, rfl, hb3, hx3⟩)
      all_goals
        cases b with
        | true =>
          obtain ⟨hj3, hk3⟩ := hb3 rfl
          clear hb3 hx3
          gi_wp2
          go_roundw
          case rel => exact ⟨k + 1, by omega, by simp, hj3, hK1.trans hk3⟩
          case measure => simp only [intOf]; omega
        | false =>
          obtain ⟨q, hq⟩ := hx3 rfl
          clear hb3 hx3
          gi_wp2
          refine bodyPost_ret (results_none rfl _ _ _) rfl ?_
          exact ⟨⟨_, rfl⟩, .inr ⟨q, trivial, hq⟩⟩
    · gi_wp2
      go_end0
      have hke : k = s.size + 1 := by omega
      subst hke
      exact ⟨⟨_, rfl⟩, .inl ⟨_, rfl, hJ1⟩⟩
set_option maxHeartbeats 1000000 in
theorem steps_in (n : Nat) (s : ByteArray) (w : World) :
    CallsIn Fence.wide n Try.prog 57 #[.string s] w fun e w' => e = .returned (.func (.func 66) #[] #[.pointer (some ⟨w.heap.size, 0, none⟩)]) ∧ w' = w.alloc (.cells #[.string s] 9) := by
  refine callsIn_of_wp Try.func57 rfl trivial ?_ rfl
  simp only [Try.ntmps57, List.size_toArray, List.length_cons, List.length_nil, Nat.reduceAdd, Nat.reduceSub, Array.replicate_succ, Array.replicate_zero, List.push_toArray, List.append_toArray, List.nil_append, List.cons_append]
  gi_wp2
  go_ret
  exact ⟨rfl, rfl⟩
/-- Texts of a step's size. -/
abbrev Short := { x : ByteArray // x.size ≤ 13 }
theorem grown_drew (w : World) : w.grownBy w.drew none := ⟨rfl, rfl, rfl, Nat.le_refl _, fun _ _ _ => rfl⟩
theorem steps_stops (n n₀ Bn : Nat) (s : ByteArray) (hs : s.size ≤ 12) (w : World) (hB : Boxed w Bn 9 (.string s)) :
    SeqStopsK Fence.wide n Try.prog 66 #[.pointer (some ⟨Bn, 0, none⟩)] (fun x : Short => #[Value.string x.1]) (KeptB n₀ Bn) (fun ys => ys.map Subtype.val = stepsL s) (fun _ => True) (stepsL s).length w := by
  intro l J Jx W hW hJ hJx hY h0
  refine (steps1_in l n₀ Bn (stepsL s).length s hs (Nat.le_refl _) (fun pre W => ∃ p : List Short, p.map Subtype.val = pre ∧ J p W) (fun pre W => ∃ p : List Short, Jx p W) (fun pre W ⟨p, hp, hj⟩ => ⟨p, hp, hJ p W W.drew none hj (grown_drew W) (fun r e => by cases e)⟩) ?_ n W ((hW.block Bn hB.lt).trans hB) ⟨[], rfl, h0⟩).mono ?_
  · rintro m pre x W1 ⟨p, rfl, hj⟩ hl hx
    refine YieldAt.mono (yieldAt_any rfl m (hY p ⟨x, hx⟩ W1 hj (by simpa using hl))) ?_
    rintro e W' (⟨he, hj', hk⟩ | ⟨he, hx'⟩)
    · exact .inl ⟨he, ⟨p ++ [⟨x, hx⟩], by simp, hj'⟩, hk⟩
    · exact .inr ⟨he, ⟨_, hx'⟩⟩
  · rintro e W' ⟨hv, ⟨ys, rfl, p, hp, hj⟩ | ⟨pre, _, p, hx⟩⟩
    · exact ⟨hv, .inl ⟨p, hp, hj⟩⟩
    · exact ⟨hv, .inr ⟨p, trivial, hx⟩⟩
end Go.Proofs.Ytbkjbkdmanaohaa
