/-
  impl.stepsAt: what a step between two texts makes, told to a loop's body one by one.
-/
import Derived.Test.YtbkjbkdmanaohaaW14
import Derived.RangeFuncNested
import Derived.RangeFuncBound
import Derived.RangeFuncCalls
import Derived.RangeFuncLeaves
import Derived.Shelf.Abstract
import Derived.Shelf.RegionOpen
import Derived.WalkKit
import Derived.OwnWalkIn
import Derived.TacticsInMore
import Derived.LoopNIn
import Derived.LoopIn
import Derived.Maps.AppendAt
namespace Go.Proofs.Ytbkjbkdmanaohaa
open Go.RowKit Go.Shelf
set_option linter.unusedVariables false
attribute [local go_sem] Oper.semAt_some
theorem room_none {F : Fence} (hd : F.depth = none) (k : Nat) : F.room k := fun d h => by rw [hd] at h; cases h
/-- Where no depth is asked, any serves. -/
theorem yieldAt_any {F : Fence} (hd : F.depth = none) {m : Nat} (m' : Nat) {P : Program} {l : Nat} {args : Array Value} {W : World} {R : Ending → World → Prop} (h : YieldAt F m P l args W R) : YieldAt F m' P l args W R := by
  obtain ⟨fn, tmps, assign, body, hy, hR⟩ := h
  exact ⟨fn, tmps, assign, body, hy, ⟨hR.1, fun c cs _ => hR.2 c cs (room_none hd _)⟩⟩
/-- An operation of a region that draws is taken first; the slot that it writes is told. -/
theorem wpAnyIn_takeD {F : Fence} {n : Nat} {P : Program} {md : Region.Mode} {ops : Array Oper} {Q : Exit → Act → World → Prop} {i d : Nat} {oi : Oper} {v : Value} {fuel : Nat} {listed : Array Bool} {a : Act} {w : World} (hro : F.round = none) (hi : ops[i]? = some oi)
    (hs : Region.noSelect ops = true) (hf : Region.free md ops listed i = true) (hr : (Region.ready md ops listed).contains i = true)
    (hQ : ∀ c a w, Q (.panic c) (a.put oi.dst v) w → Q (.panic c) a w) (hy : YieldsFenced P ops oi v a) (hd : oi.dst = some d)
    (h : wpAnyIn F n P md ops Q fuel (listed.setIfInBounds i true) (a.put (some d) v) w) : wpAnyIn F n P md ops Q (fuel + 1) listed a w :=
  wpAnyIn_take hro hi hs hf hr hQ hy (by rw [hd]; exact h)
/-- All small letters. -/
abbrev abc : ByteArray := ⟨#[97, 98, 99, 100, 101, 102, 103, 104, 105, 106, 107, 108, 109, 110, 111, 112, 113, 114, 115, 116, 117, 118, 119, 120, 121, 122]⟩
def atC (a r : ByteArray) (j : Nat) : List ByteArray := (a ++ abc.extract j (j + 1) ++ r) :: if r.size = 0 then [] else [a ++ abc.extract j (j + 1) ++ r.extract 1 r.size]
def atE (a r : ByteArray) : List ByteArray := (if r.size = 0 then [] else [a ++ r.extract 1 r.size]) ++ (if r.size < 2 then [] else [a ++ r.extract 1 2 ++ r.extract 0 1 ++ r.extract 2 r.size])
def atTo (a r : ByteArray) (k : Nat) : List ByteArray := (List.range k).flatMap (atC a r)
def atAll (a r : ByteArray) : List ByteArray := atTo a r 26 ++ atE a r
theorem atTo_succ (a r : ByteArray) (k : Nat) : atTo a r (k + 1) = atTo a r k ++ atC a r k := by
  unfold atTo; rw [List.range_succ, List.flatMap_append]; simp
theorem atC_length (a r : ByteArray) (j : Nat) : (atC a r j).length = if r.size = 0 then 1 else 2 := by
  unfold atC; split <;> rfl
theorem atTo_length (a r : ByteArray) (k : Nat) : (atTo a r k).length = k * if r.size = 0 then 1 else 2 := by
  induction k with
  | zero => simp [atTo]
  | succ k ih => rw [atTo_succ, List.length_append, ih, atC_length, Nat.succ_mul]
theorem size_of_nil {r : ByteArray} (h : r.toList = []) : r.size = 0 := by
  rw [ByteArray.toList_eq] at h
  have := congrArg List.length h
  simpa using this
theorem nil_of_size {r : ByteArray} (h : r.size = 0) : r.toList = [] := by
  rw [ByteArray.toList_eq]
  exact List.length_eq_zero_iff.1 (by simpa using h)
/-- What a round of the loop's body leaves. -/
abbrev YP (Kp : World → World → Prop) (W : World) (J Jx : List ByteArray → World → Prop) (pre : List ByteArray) (x : ByteArray) (e : Ending) (W' : World) : Prop :=
  (e = .returned (.bool true) ∧ J (pre ++ [x]) W' ∧ Kp W W') ∨ (e = .returned (.bool false) ∧ Jx (pre ++ [x]) W')
set_option maxRecDepth 100000 in
set_option maxHeartbeats 2000000 in
theorem stepsAt_in (l N : Nat) (Kp : World → World → Prop) (hKr : ∀ W, Kp W W) (hKt : ∀ {A B C : World}, Kp A B → Kp B C → Kp A C) (hKd : ∀ W : World, Kp W W.drew) (J Jx : List ByteArray → World → Prop) (hD : ∀ pre W, J pre W → J pre W.drew)
    (hY : ∀ m pre x W, J pre W → pre.length < N → x.size ≤ 13 → YieldAt Fence.wide m Try.prog l #[.string x] W (YP Kp W J Jx pre x))
    (n : Nat) (a r : ByteArray) (pre : List ByteArray) (W : World) (hJ : J pre W) (hN : pre.length + (atAll a r).length ≤ N) (hsz : a.size + r.size ≤ 12) :
    CallsIn Fence.wide n Try.prog 67 #[.string a, .string r, .func (.yield l) #[] #[]] W fun e W' =>
      (e = .returned (.bool true) ∧ J (pre ++ atAll a r) W' ∧ Kp W W') ∨ (e = .returned (.bool false) ∧ ∃ q, Jx q W') := by
  have hdd : ∀ k : Nat, (Fence.wide.depth.isSome = true → 1 ≤ k) := fun k h => by cases h
  have hY2 : ∀ pre x y W, J pre W → pre.length + 1 + 1 ≤ N → x.size ≤ 13 → y.size ≤ 13 → YieldAt Fence.wide (n - 1) Try.prog l #[.string x] W fun e W2 => (e = .returned (.bool true) ∧ Kp W W2 ∧ YieldAt Fence.wide (n - 1) Try.prog l #[.string y] W2 (YP Kp W2 J Jx (pre ++ [x]) y)) ∨ (e = .returned (.bool false) ∧ Jx (pre ++ [x]) W2) := fun pre x y W hj hl hx hy =>
    YieldAt.mono (hY (n - 1) pre x W hj (by omega) hx) fun e W2 h => h.elim (fun ⟨he, hj2, hb2⟩ => .inl ⟨he, hb2, hY (n - 1) _ y W2 hj2 (by rw [List.length_append, List.length_singleton]; omega) hy⟩) .inr
  have hY3 : ∀ pre x y W, J pre W → pre.length + 1 + 1 ≤ N → x.size ≤ 13 → y.size ≤ 13 → YieldAt Fence.wide (n - 1) Try.prog l #[.string x] W fun e W2 => (e = .returned (.bool true) ∧ Kp W W2 ∧ YieldAt Fence.wide (n - 1) Try.prog l #[.string y] W2.drew fun e W3 => ∃ b : Bool, e = .returned (.bool b) ∧ (b = true → J (pre ++ [x] ++ [y]) W3 ∧ Kp W2.drew W3) ∧ (b = false → Jx (pre ++ [x] ++ [y]) W3)) ∨ (e = .returned (.bool false) ∧ Jx (pre ++ [x]) W2) := fun pre x y W hj hl hx hy =>
    YieldAt.mono (hY (n - 1) pre x W hj (by omega) hx) fun e W2 h => h.elim (fun ⟨he, hj2, hb2⟩ => .inl ⟨he, hb2, YieldAt.mono (hY (n - 1) _ y W2.drew (hD _ _ hj2) (by rw [List.length_append, List.length_singleton]; omega) hy) fun e W3 h3 => h3.elim (fun ⟨he3, hj3, hb3⟩ => ⟨true, he3, fun _ => ⟨hj3, hb3⟩, fun h => (by cases h)⟩) (fun ⟨he3, hx3⟩ => ⟨false, he3, fun h => (by cases h), fun _ => hx3⟩)⟩) .inr
  refine callsIn_of_wp Try.func67 rfl trivial ?_ rfl
  simp only [Try.ntmps67, List.size_toArray, List.length_cons, List.length_nil, Nat.reduceAdd, Nat.reduceSub, Array.replicate_succ, Array.replicate_zero, List.push_toArray, List.append_toArray, List.nil_append, List.cons_append]
  gi_wp2
  gi_loopw [9] (fun i wr => ∃ k : Nat, k ≤ 26 ∧ i = .int .i64 k ∧ J (pre ++ atTo a r k) wr ∧ Kp W wr) (fun i _ => 26 - (intOf i).toNat)
  case atStart => exact ⟨0, by omega, rfl, by simpa [atTo] using hJ, hKr _⟩
  case round =>
    obtain ⟨k, hk, rfl, hJ1, hB1⟩ := hrel
    by_cases hlt : k < 26
    · have hxs : (a ++ abc.extract k (k + 1) ++ r).size ≤ 13 := by simp only [ByteArray.size_append, ByteArray.size_extract]; omega
      have hys : (a ++ abc.extract k (k + 1) ++ r.extract 1 r.size).size ≤ 13 := by simp only [ByteArray.size_append, ByteArray.size_extract]; omega
      have hl1 : (pre ++ atTo a r k).length + 1 + (if r.size = 0 then 0 else 1) ≤ N := by
        have h1 := atTo_length a r k
        have h2 := atTo_length a r 26
        simp only [atAll, List.length_append] at hN ⊢
        rw [h1]
        rw [h2] at hN
        split at hN <;> simp_all <;> omega
      by_cases hrl : r.toList = []
      · have hrs : r.size = 0 := size_of_nil hrl
        obtain ⟨fn, tmps, assign, body, hy, hR⟩ := hY (n - 1) _ (a ++ abc.extract k (k + 1) ++ r) wr hJ1 (by omega) hxs
        gi_wp2_with ((try refine ⟨hdd _, ?_⟩); refine hR.mono ?_; clear hR hy; rintro e W2 (⟨rfl, hJ2, hb2⟩ | ⟨rfl, hx2⟩))
        · refine ⟨fun _ h => (by cases h), ?_⟩
          gi_wp2
          go_roundw
          case rel => exact ⟨k + 1, by omega, by simp, by rw [atTo_succ]; simpa [atC, hrs] using hJ2, hKt hB1 hb2⟩
          case measure => simp only [intOf]; omega
        · go_ret
          exact .inr ⟨rfl, _, hx2⟩
      · have hrs : ¬ r.size = 0 := fun h => hrl (nil_of_size h)
        have hie : r.toList.isEmpty = false := by simpa using hrl
        rw [if_neg hrs] at hl1
        obtain ⟨fn, tmps, assign, body, hy, hR⟩ := hY2 _ (a ++ abc.extract k (k + 1) ++ r) (a ++ abc.extract k (k + 1) ++ r.extract 1 r.size) wr hJ1 (by omega) hxs hys
        gi_wp2_with (first
          | ((try refine ⟨hdd _, ?_⟩); refine hR.mono ?_; clear hR hy; rintro e W2 (⟨rfl, hb2, fn, tmps, assign, body, hy, hR2⟩ | ⟨rfl, hx2⟩))
          | ((try refine ⟨hdd _, ?_⟩); refine hR2.mono ?_; clear hR2 hy; rintro e W3 (⟨rfl, hJ3, hb3⟩ | ⟨rfl, hx3⟩)))
        · go_roundw
          case rel => exact ⟨k + 1, by omega, by simp, by rw [atTo_succ]; simpa [atC, hrs] using hJ3, hKt (hKt hB1 hb2) hb3⟩
          case measure => simp only [intOf]; omega
        · go_ret
          exact .inr ⟨rfl, _, hx3⟩
        · go_ret
          exact .inr ⟨rfl, _, hx2⟩
    · have hk26 : k = 26 := by omega
      subst hk26
      clear hlt hk
      by_cases hrl : r.toList = []
      · have hrs : r.size = 0 := size_of_nil hrl
        have hA : atAll a r = atTo a r 26 := by simp [atAll, atE, hrs]
        gi_wp2
        refine ⟨fun _ h => (by cases h), ?_⟩
        gi_wp2
        have hr2 : (r.size : Int) < 2 := by omega
        --@shut
        refine wpIn_region_any (by kernel_rfl) ?_
        change wpAnyIn _ _ _ _ _ _ _ _ _ (World.drew _)
        refine wpAnyIn_takeD (i := 0) (d := 47) (v := .string r) rfl rfl (by kernel_rfl) (by kernel_rfl) (by kernel_rfl) (fun _ _ _ h => h) ⟨Or.inl ⟨by rfl, by intro w; go_simp <;> first | omega | (intro h; exact absurd h (by omega))⟩, fun _ => rfl⟩ rfl ?_
        simp only [Act.put, List.setIfInBounds_toArray, List.set_cons_zero, List.set_cons_succ]
        refine wpAnyIn_takeD (i := 1) (d := 48) (v := .int .i64 r.size) rfl rfl (by kernel_rfl) (by kernel_rfl) (by kernel_rfl) (fun _ _ _ h => h) ⟨Or.inl ⟨by rfl, by intro w; go_simp <;> first | omega | (intro h; exact absurd h (by omega))⟩, fun _ => rfl⟩ rfl ?_
        simp only [Act.put, List.setIfInBounds_toArray, List.set_cons_zero, List.set_cons_succ]
        refine wpAnyIn_takeD (i := 2) (d := 49) (v := .bool true) rfl rfl (by kernel_rfl) (by kernel_rfl) (by kernel_rfl) (fun _ _ _ h => h) ⟨Or.inl ⟨by rfl, by intro w; go_simp <;> first | omega | (intro h; exact absurd h (by omega))⟩, fun _ => rfl⟩ rfl ?_
        simp only [Act.put, List.setIfInBounds_toArray, List.set_cons_zero, List.set_cons_succ]
        refine wpAnyIn_takeD (i := 3) (d := 50) (v := .bool true) rfl rfl (by kernel_rfl) (by kernel_rfl) (by kernel_rfl) (fun _ _ _ h => h) ⟨Or.inl ⟨by rfl, by intro w; go_simp <;> first | omega | (intro h; exact absurd h (by omega))⟩, fun _ => rfl⟩ rfl ?_
        simp only [Act.put, List.setIfInBounds_toArray, List.set_cons_zero, List.set_cons_succ]
        refine wpAnyIn_takeD (i := 4) (d := 51) (v := undef) rfl rfl (by kernel_rfl) (by kernel_rfl) (by kernel_rfl) (fun _ _ _ h => h) ⟨Or.inr ⟨by rfl, rfl⟩, fun _ => rfl⟩ rfl ?_
        simp only [Act.put, List.setIfInBounds_toArray, List.set_cons_zero, List.set_cons_succ]
        refine wpAnyIn_takeD (i := 5) (d := 52) (v := undef) rfl rfl (by kernel_rfl) (by kernel_rfl) (by kernel_rfl) (fun _ _ _ h => h) ⟨Or.inr ⟨by rfl, rfl⟩, fun _ => rfl⟩ rfl ?_
        simp only [Act.put, List.setIfInBounds_toArray, List.set_cons_zero, List.set_cons_succ]
        refine wpAnyIn_takeD (i := 6) (d := 53) (v := undef) rfl rfl (by kernel_rfl) (by kernel_rfl) (by kernel_rfl) (fun _ _ _ h => h) ⟨Or.inr ⟨by rfl, rfl⟩, fun _ => rfl⟩ rfl ?_
        simp only [Act.put, List.setIfInBounds_toArray, List.set_cons_zero, List.set_cons_succ]
        refine wpAnyIn_takeD (i := 7) (d := 54) (v := undef) rfl rfl (by kernel_rfl) (by kernel_rfl) (by kernel_rfl) (fun _ _ _ h => h) ⟨Or.inr ⟨by rfl, rfl⟩, fun _ => rfl⟩ rfl ?_
        simp only [Act.put, List.setIfInBounds_toArray, List.set_cons_zero, List.set_cons_succ]
        refine wpAnyIn_takeD (i := 8) (d := 55) (v := undef) rfl rfl (by kernel_rfl) (by kernel_rfl) (by kernel_rfl) (fun _ _ _ h => h) ⟨Or.inr ⟨by rfl, rfl⟩, fun _ => rfl⟩ rfl ?_
        simp only [Act.put, List.setIfInBounds_toArray, List.set_cons_zero, List.set_cons_succ]
        refine wpAnyIn_takeD (i := 9) (d := 56) (v := undef) rfl rfl (by kernel_rfl) (by kernel_rfl) (by kernel_rfl) (fun _ _ _ h => h) ⟨Or.inr ⟨by rfl, rfl⟩, fun _ => rfl⟩ rfl ?_
        simp only [Act.put, List.setIfInBounds_toArray, List.set_cons_zero, List.set_cons_succ]
        refine wpAnyIn_takeD (i := 10) (d := 57) (v := undef) rfl rfl (by kernel_rfl) (by kernel_rfl) (by kernel_rfl) (fun _ _ _ h => h) ⟨Or.inr ⟨by rfl, rfl⟩, fun _ => rfl⟩ rfl ?_
        simp only [Act.put, List.setIfInBounds_toArray, List.set_cons_zero, List.set_cons_succ]
        refine wpAnyIn_takeD (i := 11) (d := 58) (v := undef) rfl rfl (by kernel_rfl) (by kernel_rfl) (by kernel_rfl) (fun _ _ _ h => h) ⟨Or.inr ⟨by rfl, rfl⟩, fun _ => rfl⟩ rfl ?_
        simp only [Act.put, List.setIfInBounds_toArray, List.set_cons_zero, List.set_cons_succ]
        refine wpAnyIn_takeD (i := 12) (d := 59) (v := undef) rfl rfl (by kernel_rfl) (by kernel_rfl) (by kernel_rfl) (fun _ _ _ h => h) ⟨Or.inr ⟨by rfl, rfl⟩, fun _ => rfl⟩ rfl ?_
        simp only [Act.put, List.setIfInBounds_toArray, List.set_cons_zero, List.set_cons_succ]
        refine wpAnyIn_takeD (i := 13) (d := 60) (v := undef) rfl rfl (by kernel_rfl) (by kernel_rfl) (by kernel_rfl) (fun _ _ _ h => h) ⟨Or.inr ⟨by rfl, rfl⟩, fun _ => rfl⟩ rfl ?_
        simp only [Act.put, List.setIfInBounds_toArray, List.set_cons_zero, List.set_cons_succ]
        refine wpAnyIn_takeD (i := 14) (d := 61) (v := undef) rfl rfl (by kernel_rfl) (by kernel_rfl) (by kernel_rfl) (fun _ _ _ h => h) ⟨Or.inr ⟨by rfl, rfl⟩, fun _ => rfl⟩ rfl ?_
        simp only [Act.put, List.setIfInBounds_toArray, List.set_cons_zero, List.set_cons_succ]
        refine wpAnyIn_takeD (i := 15) (d := 62) (v := undef) rfl rfl (by kernel_rfl) (by kernel_rfl) (by kernel_rfl) (fun _ _ _ h => h) ⟨Or.inr ⟨by rfl, rfl⟩, fun _ => rfl⟩ rfl ?_
        simp only [Act.put, List.setIfInBounds_toArray, List.set_cons_zero, List.set_cons_succ]
        refine wpAnyIn_takeD (i := 16) (d := 63) (v := .bool true) rfl rfl (by kernel_rfl) (by kernel_rfl) (by kernel_rfl) (fun _ _ _ h => h) ⟨Or.inl ⟨by rfl, by intro w; go_simp <;> first | omega | (intro h; exact absurd h (by omega))⟩, fun _ => rfl⟩ rfl ?_
        simp only [Act.put, List.setIfInBounds_toArray, List.set_cons_zero, List.set_cons_succ]
        refine wpAnyIn_takeD (i := 17) (d := 6) (v := .bool true) rfl rfl (by kernel_rfl) (by kernel_rfl) (by kernel_rfl) (fun _ _ _ h => h) ⟨Or.inl ⟨by rfl, by intro w; go_simp <;> first | omega | (intro h; exact absurd h (by omega))⟩, fun _ => rfl⟩ rfl ?_
        simp only [Act.put, List.setIfInBounds_toArray, List.set_cons_zero, List.set_cons_succ]
        refine wpAnyIn_done (by kernel_rfl) ?_ _
        --@end
        gi_wp2
        go_ret
        exact .inl ⟨rfl, by rw [hA]; exact hD _ _ hJ1, hKt hB1 (hKd _)⟩
      · have hrs : ¬ r.size = 0 := fun h => hrl (nil_of_size h)
        have hie : r.toList.isEmpty = false := by simpa using hrl
        by_cases hr2 : r.size < 2
        · have hA : atAll a r = atTo a r 26 ++ [a ++ r.extract 1 r.size] := by simp [atAll, atE, hrs, hr2]
          rw [hA] at hN
          obtain ⟨fn, tmps, assign, body, hy, hR⟩ := hY (n - 1) _ (a ++ r.extract 1 r.size) wr hJ1 (by simp only [List.length_append, List.length_singleton] at hN ⊢; omega) (by simp only [ByteArray.size_append, ByteArray.size_extract]; omega)
          gi_wp2_with ((try refine ⟨hdd _, ?_⟩); refine hR.mono ?_; clear hR hy; rintro e W2 (⟨rfl, hJ2, hb2⟩ | ⟨rfl, hx2⟩))
          · have hr3 : (r.size : Int) < 2 := by omega
            --@shut
            refine wpIn_region_any (by kernel_rfl) ?_
            change wpAnyIn _ _ _ _ _ _ _ _ _ (World.drew _)
            refine wpAnyIn_takeD (i := 0) (d := 47) (v := .string r) rfl rfl (by kernel_rfl) (by kernel_rfl) (by kernel_rfl) (fun _ _ _ h => h) ⟨Or.inl ⟨by rfl, by intro w; go_simp <;> first | omega | (intro h; exact absurd h (by omega))⟩, fun _ => rfl⟩ rfl ?_
            simp only [Act.put, List.setIfInBounds_toArray, List.set_cons_zero, List.set_cons_succ]
            refine wpAnyIn_takeD (i := 1) (d := 48) (v := .int .i64 r.size) rfl rfl (by kernel_rfl) (by kernel_rfl) (by kernel_rfl) (fun _ _ _ h => h) ⟨Or.inl ⟨by rfl, by intro w; go_simp <;> first | omega | (intro h; exact absurd h (by omega))⟩, fun _ => rfl⟩ rfl ?_
            simp only [Act.put, List.setIfInBounds_toArray, List.set_cons_zero, List.set_cons_succ]
            refine wpAnyIn_takeD (i := 2) (d := 49) (v := .bool true) rfl rfl (by kernel_rfl) (by kernel_rfl) (by kernel_rfl) (fun _ _ _ h => h) ⟨Or.inl ⟨by rfl, by intro w; go_simp <;> first | omega | (intro h; exact absurd h (by omega))⟩, fun _ => rfl⟩ rfl ?_
            simp only [Act.put, List.setIfInBounds_toArray, List.set_cons_zero, List.set_cons_succ]
            refine wpAnyIn_takeD (i := 3) (d := 50) (v := .bool true) rfl rfl (by kernel_rfl) (by kernel_rfl) (by kernel_rfl) (fun _ _ _ h => h) ⟨Or.inl ⟨by rfl, by intro w; go_simp <;> first | omega | (intro h; exact absurd h (by omega))⟩, fun _ => rfl⟩ rfl ?_
            simp only [Act.put, List.setIfInBounds_toArray, List.set_cons_zero, List.set_cons_succ]
            refine wpAnyIn_takeD (i := 4) (d := 51) (v := undef) rfl rfl (by kernel_rfl) (by kernel_rfl) (by kernel_rfl) (fun _ _ _ h => h) ⟨Or.inr ⟨by rfl, rfl⟩, fun _ => rfl⟩ rfl ?_
            simp only [Act.put, List.setIfInBounds_toArray, List.set_cons_zero, List.set_cons_succ]
            refine wpAnyIn_takeD (i := 5) (d := 52) (v := undef) rfl rfl (by kernel_rfl) (by kernel_rfl) (by kernel_rfl) (fun _ _ _ h => h) ⟨Or.inr ⟨by rfl, rfl⟩, fun _ => rfl⟩ rfl ?_
            simp only [Act.put, List.setIfInBounds_toArray, List.set_cons_zero, List.set_cons_succ]
            refine wpAnyIn_takeD (i := 6) (d := 53) (v := undef) rfl rfl (by kernel_rfl) (by kernel_rfl) (by kernel_rfl) (fun _ _ _ h => h) ⟨Or.inr ⟨by rfl, rfl⟩, fun _ => rfl⟩ rfl ?_
            simp only [Act.put, List.setIfInBounds_toArray, List.set_cons_zero, List.set_cons_succ]
            refine wpAnyIn_takeD (i := 7) (d := 54) (v := undef) rfl rfl (by kernel_rfl) (by kernel_rfl) (by kernel_rfl) (fun _ _ _ h => h) ⟨Or.inr ⟨by rfl, rfl⟩, fun _ => rfl⟩ rfl ?_
            simp only [Act.put, List.setIfInBounds_toArray, List.set_cons_zero, List.set_cons_succ]
            refine wpAnyIn_takeD (i := 8) (d := 55) (v := undef) rfl rfl (by kernel_rfl) (by kernel_rfl) (by kernel_rfl) (fun _ _ _ h => h) ⟨Or.inr ⟨by rfl, rfl⟩, fun _ => rfl⟩ rfl ?_
            simp only [Act.put, List.setIfInBounds_toArray, List.set_cons_zero, List.set_cons_succ]
            refine wpAnyIn_takeD (i := 9) (d := 56) (v := undef) rfl rfl (by kernel_rfl) (by kernel_rfl) (by kernel_rfl) (fun _ _ _ h => h) ⟨Or.inr ⟨by rfl, rfl⟩, fun _ => rfl⟩ rfl ?_
            simp only [Act.put, List.setIfInBounds_toArray, List.set_cons_zero, List.set_cons_succ]
            refine wpAnyIn_takeD (i := 10) (d := 57) (v := undef) rfl rfl (by kernel_rfl) (by kernel_rfl) (by kernel_rfl) (fun _ _ _ h => h) ⟨Or.inr ⟨by rfl, rfl⟩, fun _ => rfl⟩ rfl ?_
            simp only [Act.put, List.setIfInBounds_toArray, List.set_cons_zero, List.set_cons_succ]
            refine wpAnyIn_takeD (i := 11) (d := 58) (v := undef) rfl rfl (by kernel_rfl) (by kernel_rfl) (by kernel_rfl) (fun _ _ _ h => h) ⟨Or.inr ⟨by rfl, rfl⟩, fun _ => rfl⟩ rfl ?_
            simp only [Act.put, List.setIfInBounds_toArray, List.set_cons_zero, List.set_cons_succ]
            refine wpAnyIn_takeD (i := 12) (d := 59) (v := undef) rfl rfl (by kernel_rfl) (by kernel_rfl) (by kernel_rfl) (fun _ _ _ h => h) ⟨Or.inr ⟨by rfl, rfl⟩, fun _ => rfl⟩ rfl ?_
            simp only [Act.put, List.setIfInBounds_toArray, List.set_cons_zero, List.set_cons_succ]
            refine wpAnyIn_takeD (i := 13) (d := 60) (v := undef) rfl rfl (by kernel_rfl) (by kernel_rfl) (by kernel_rfl) (fun _ _ _ h => h) ⟨Or.inr ⟨by rfl, rfl⟩, fun _ => rfl⟩ rfl ?_
            simp only [Act.put, List.setIfInBounds_toArray, List.set_cons_zero, List.set_cons_succ]
            refine wpAnyIn_takeD (i := 14) (d := 61) (v := undef) rfl rfl (by kernel_rfl) (by kernel_rfl) (by kernel_rfl) (fun _ _ _ h => h) ⟨Or.inr ⟨by rfl, rfl⟩, fun _ => rfl⟩ rfl ?_
            simp only [Act.put, List.setIfInBounds_toArray, List.set_cons_zero, List.set_cons_succ]
            refine wpAnyIn_takeD (i := 15) (d := 62) (v := undef) rfl rfl (by kernel_rfl) (by kernel_rfl) (by kernel_rfl) (fun _ _ _ h => h) ⟨Or.inr ⟨by rfl, rfl⟩, fun _ => rfl⟩ rfl ?_
            simp only [Act.put, List.setIfInBounds_toArray, List.set_cons_zero, List.set_cons_succ]
            refine wpAnyIn_takeD (i := 16) (d := 63) (v := .bool true) rfl rfl (by kernel_rfl) (by kernel_rfl) (by kernel_rfl) (fun _ _ _ h => h) ⟨Or.inl ⟨by rfl, by intro w; go_simp <;> first | omega | (intro h; exact absurd h (by omega))⟩, fun _ => rfl⟩ rfl ?_
            simp only [Act.put, List.setIfInBounds_toArray, List.set_cons_zero, List.set_cons_succ]
            refine wpAnyIn_takeD (i := 17) (d := 6) (v := .bool true) rfl rfl (by kernel_rfl) (by kernel_rfl) (by kernel_rfl) (fun _ _ _ h => h) ⟨Or.inl ⟨by rfl, by intro w; go_simp <;> first | omega | (intro h; exact absurd h (by omega))⟩, fun _ => rfl⟩ rfl ?_
            simp only [Act.put, List.setIfInBounds_toArray, List.set_cons_zero, List.set_cons_succ]
            refine wpAnyIn_done (by kernel_rfl) ?_ _
            --@end
            gi_wp2
            go_ret
            exact .inl ⟨rfl, by rw [hA, ← List.append_assoc]; exact hD _ _ hJ2, hKt (hKt hB1 hb2) (hKd _)⟩
          · go_ret
            exact .inr ⟨rfl, _, hx2⟩
        · have hA : atAll a r = atTo a r 26 ++ [a ++ r.extract 1 r.size] ++ [a ++ r.extract 1 2 ++ r.extract 0 1 ++ r.extract 2 r.size] := by simp [atAll, atE, hrs, hr2]
          rw [hA] at hN
          obtain ⟨fn, tmps, assign, body, hy, hR⟩ := hY3 _ (a ++ r.extract 1 r.size) (a ++ r.extract 1 2 ++ r.extract 0 1 ++ r.extract 2 r.size) wr hJ1 (by simp only [List.length_append, List.length_singleton] at hN ⊢; omega) (by simp only [ByteArray.size_append, ByteArray.size_extract]; omega) (by simp only [ByteArray.size_append, ByteArray.size_extract]; omega)
          gi_wp2_with ((try refine ⟨hdd _, ?_⟩); refine hR.mono ?_; clear hR hy; rintro e W2 (⟨rfl, hb2, fn, tmps, assign, body, hy, hR2⟩ | ⟨rfl, hx2⟩))
          · have hr3 : ¬ (r.size : Int) < 2 := by omega
            --@open
            refine wpIn_region_any (by kernel_rfl) ?_
            change wpAnyIn _ _ _ _ _ _ _ _ _ (World.drew _)
            refine wpAnyIn_takeD (i := 0) (d := 47) (v := .string r) rfl rfl (by kernel_rfl) (by kernel_rfl) (by kernel_rfl) (fun _ _ _ h => h) ⟨Or.inl ⟨by rfl, by intro w; go_simp <;> first | omega | (intro h; exact absurd h (by omega))⟩, fun _ => rfl⟩ rfl ?_
            simp only [Act.put, List.setIfInBounds_toArray, List.set_cons_zero, List.set_cons_succ]
            refine wpAnyIn_takeD (i := 1) (d := 48) (v := .int .i64 r.size) rfl rfl (by kernel_rfl) (by kernel_rfl) (by kernel_rfl) (fun _ _ _ h => h) ⟨Or.inl ⟨by rfl, by intro w; go_simp <;> first | omega | (intro h; exact absurd h (by omega))⟩, fun _ => rfl⟩ rfl ?_
            simp only [Act.put, List.setIfInBounds_toArray, List.set_cons_zero, List.set_cons_succ]
            refine wpAnyIn_takeD (i := 2) (d := 49) (v := .bool false) rfl rfl (by kernel_rfl) (by kernel_rfl) (by kernel_rfl) (fun _ _ _ h => h) ⟨Or.inl ⟨by rfl, by intro w; go_simp <;> first | omega | (intro h; exact absurd h (by omega))⟩, fun _ => rfl⟩ rfl ?_
            simp only [Act.put, List.setIfInBounds_toArray, List.set_cons_zero, List.set_cons_succ]
            refine wpAnyIn_takeD (i := 3) (d := 50) (v := .bool false) rfl rfl (by kernel_rfl) (by kernel_rfl) (by kernel_rfl) (fun _ _ _ h => h) ⟨Or.inl ⟨by rfl, by intro w; go_simp <;> first | omega | (intro h; exact absurd h (by omega))⟩, fun _ => rfl⟩ rfl ?_
            simp only [Act.put, List.setIfInBounds_toArray, List.set_cons_zero, List.set_cons_succ]
            refine wpAnyIn_takeD (i := 4) (d := 51) (v := .func (.yield l) #[] #[]) rfl rfl (by kernel_rfl) (by kernel_rfl) (by kernel_rfl) (fun _ _ _ h => h) ⟨Or.inl ⟨by rfl, by intro w; go_simp <;> first | omega | (intro h; exact absurd h (by omega))⟩, fun _ => rfl⟩ rfl ?_
            simp only [Act.put, List.setIfInBounds_toArray, List.set_cons_zero, List.set_cons_succ]
            refine wpAnyIn_takeD (i := 5) (d := 52) (v := .string a) rfl rfl (by kernel_rfl) (by kernel_rfl) (by kernel_rfl) (fun _ _ _ h => h) ⟨Or.inl ⟨by rfl, by intro w; go_simp <;> first | omega | (intro h; exact absurd h (by omega))⟩, fun _ => rfl⟩ rfl ?_
            simp only [Act.put, List.setIfInBounds_toArray, List.set_cons_zero, List.set_cons_succ]
            refine wpAnyIn_takeD (i := 6) (d := 53) (v := .string r) rfl rfl (by kernel_rfl) (by kernel_rfl) (by kernel_rfl) (fun _ _ _ h => h) ⟨Or.inl ⟨by rfl, by intro w; go_simp <;> first | omega | (intro h; exact absurd h (by omega))⟩, fun _ => rfl⟩ rfl ?_
            simp only [Act.put, List.setIfInBounds_toArray, List.set_cons_zero, List.set_cons_succ]
            refine wpAnyIn_takeD (i := 7) (d := 54) (v := .string (r.extract 1 2)) rfl rfl (by kernel_rfl) (by kernel_rfl) (by kernel_rfl) (fun _ _ _ h => h) ⟨Or.inl ⟨by rfl, by intro w; go_simp <;> first | omega | (intro h; exact absurd h (by omega))⟩, fun _ => rfl⟩ rfl ?_
            simp only [Act.put, List.setIfInBounds_toArray, List.set_cons_zero, List.set_cons_succ]
            refine wpAnyIn_takeD (i := 8) (d := 55) (v := .string (a ++ r.extract 1 2)) rfl rfl (by kernel_rfl) (by kernel_rfl) (by kernel_rfl) (fun _ _ _ h => h) ⟨Or.inl ⟨by rfl, by intro w; go_simp <;> first | omega | (intro h; exact absurd h (by omega))⟩, fun _ => rfl⟩ rfl ?_
            simp only [Act.put, List.setIfInBounds_toArray, List.set_cons_zero, List.set_cons_succ]
            refine wpAnyIn_takeD (i := 9) (d := 56) (v := .string r) rfl rfl (by kernel_rfl) (by kernel_rfl) (by kernel_rfl) (fun _ _ _ h => h) ⟨Or.inl ⟨by rfl, by intro w; go_simp <;> first | omega | (intro h; exact absurd h (by omega))⟩, fun _ => rfl⟩ rfl ?_
            simp only [Act.put, List.setIfInBounds_toArray, List.set_cons_zero, List.set_cons_succ]
            refine wpAnyIn_takeD (i := 10) (d := 57) (v := .string (r.extract 0 1)) rfl rfl (by kernel_rfl) (by kernel_rfl) (by kernel_rfl) (fun _ _ _ h => h) ⟨Or.inl ⟨by rfl, by intro w; go_simp <;> first | omega | (intro h; exact absurd h (by omega))⟩, fun _ => rfl⟩ rfl ?_
            simp only [Act.put, List.setIfInBounds_toArray, List.set_cons_zero, List.set_cons_succ]
            refine wpAnyIn_takeD (i := 11) (d := 58) (v := .string (a ++ r.extract 1 2 ++ r.extract 0 1)) rfl rfl (by kernel_rfl) (by kernel_rfl) (by kernel_rfl) (fun _ _ _ h => h) ⟨Or.inl ⟨by rfl, by intro w; go_simp <;> first | omega | (intro h; exact absurd h (by omega))⟩, fun _ => rfl⟩ rfl ?_
            simp only [Act.put, List.setIfInBounds_toArray, List.set_cons_zero, List.set_cons_succ]
            refine wpAnyIn_takeD (i := 12) (d := 59) (v := .string r) rfl rfl (by kernel_rfl) (by kernel_rfl) (by kernel_rfl) (fun _ _ _ h => h) ⟨Or.inl ⟨by rfl, by intro w; go_simp <;> first | omega | (intro h; exact absurd h (by omega))⟩, fun _ => rfl⟩ rfl ?_
            simp only [Act.put, List.setIfInBounds_toArray, List.set_cons_zero, List.set_cons_succ]
            refine wpAnyIn_takeD (i := 13) (d := 60) (v := .string (r.extract 2 r.size)) rfl rfl (by kernel_rfl) (by kernel_rfl) (by kernel_rfl) (fun _ _ _ h => h) ⟨Or.inl ⟨by rfl, by intro w; go_simp <;> first | omega | (intro h; exact absurd h (by omega))⟩, fun _ => rfl⟩ rfl ?_
            simp only [Act.put, List.setIfInBounds_toArray, List.set_cons_zero, List.set_cons_succ]
            refine wpAnyIn_takeD (i := 14) (d := 61) (v := .string (a ++ r.extract 1 2 ++ r.extract 0 1 ++ r.extract 2 r.size)) rfl rfl (by kernel_rfl) (by kernel_rfl) (by kernel_rfl) (fun _ _ _ h => h) ⟨Or.inl ⟨by rfl, by intro w; go_simp <;> first | omega | (intro h; exact absurd h (by omega))⟩, fun _ => rfl⟩ rfl ?_
            simp only [Act.put, List.setIfInBounds_toArray, List.set_cons_zero, List.set_cons_succ]
            refine wpAnyIn_ready (rs := [15]) (by kernel_rfl) (by simp) ?_
            refine AllReadyIn.cons rfl (fun K hK => ?_) AllReadyIn.nil
            go_simp
            try refine ⟨hdd _, ?_⟩
            refine hR2.mono ?_
            clear hR2 hy
            rintro e W3 ⟨b, rfl, hb3, hx3⟩
            go_simp
            refine hK _ _ ?_
            clear hK K
            refine wpAnyIn_takeD (i := 16) (d := 63) (v := .bool b) rfl rfl (by kernel_rfl) (by kernel_rfl) (by kernel_rfl) (fun _ _ _ h => h) ⟨Or.inl ⟨by rfl, by intro w; go_simp <;> first | omega | (intro h; exact absurd h (by omega))⟩, fun _ => rfl⟩ rfl ?_
            simp only [Act.put, List.setIfInBounds_toArray, List.set_cons_zero, List.set_cons_succ]
            refine wpAnyIn_takeD (i := 17) (d := 6) (v := .bool b) rfl rfl (by kernel_rfl) (by kernel_rfl) (by kernel_rfl) (fun _ _ _ h => h) ⟨Or.inl ⟨by rfl, by intro w; go_simp <;> first | omega | (intro h; exact absurd h (by omega))⟩, fun _ => rfl⟩ rfl ?_
            simp only [Act.put, List.setIfInBounds_toArray, List.set_cons_zero, List.set_cons_succ]
            refine wpAnyIn_done (by kernel_rfl) ?_ _
            --@endopen
            gi_wp2
            go_ret
            cases b with
            | true => exact .inl ⟨rfl, by simpa [hA, List.append_assoc] using (hb3 rfl).1, hKt (hKt (hKt hB1 hb2) (hKd _)) (hb3 rfl).2⟩
            | false => exact .inr ⟨rfl, _, hx3 rfl⟩
          · go_ret
            exact .inr ⟨rfl, _, hx2⟩
end Go.Proofs.Ytbkjbkdmanaohaa
