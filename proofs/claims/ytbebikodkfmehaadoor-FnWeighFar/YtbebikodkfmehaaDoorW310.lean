/-
  How far two letters are on a keyboard: the rows as a package variable, keyPlace and l10Row, KeyFar of both.
-/
import Derived.Test.YtbebikodkfmehaaDoorGM6
import Derived.Test.YtbebikodkfmehaaDoorGW4
import Derived.Test.YtbebikodkfmehaaDoorW8
import Derived.Test.YtbebikodkfmehaaDoorShelf
import Derived.Lib.IndexLaws
import Derived.Lib.LaidTab
import Derived.Deep.QuietTactic
import Derived.BigQuiet
namespace Go.Proofs.YtbebikodkfmehaaDoor
open Go.RowKit
set_option linter.unusedVariables false
theorem ret_k {a b : Int} (h : a = b) : Ending.returned (.int .i64 a) = .returned (.int .i64 b) := by rw [h]
/-- The rows. -/
def row0 : ByteArray := ⟨#[113, 119, 101, 114, 116, 121, 117, 105, 111, 112]⟩
def row1 : ByteArray := ⟨#[97, 115, 100, 102, 103, 104, 106, 107, 108]⟩
def row2 : ByteArray := ⟨#[122, 120, 99, 118, 98, 110, 109]⟩
def rowN3 (i : Nat) : ByteArray := if i = 0 then row0 else if i = 1 then row1 else row2
/-- An array of texts that reads as a datum holds just these. -/
theorem cells_of_texts {H : Type} {enc : TypeId × Value → H} {P : Program} {w : World} {base : Nat} {sp : Nat → Bool} {held : Bool} {fuel : Nat} {t e : TypeId} {n : Nat} {cs : List Value} {zs : List ByteArray} {p : List MemPlace}
    (ht : P.underlying t = some (.array n e)) (he : P.underlying e = some .string) (hce : P.cellsOf e = 1) (hct : P.cellsOf t = n)
    (h : DataW.trod enc P w base sp held fuel t cs = some (.agg (zs.map fun z => .lit (.string z.data.toList)), p)) : cs = zs.map fun z => Value.string z := by
  cases fuel with
  | zero => simp [DataW.trod] at h
  | succ fuel =>
    simp only [DataW.trod, ht, hce, hct, Nat.mul_one] at h
    split at h
    · rename_i hl
      obtain ⟨xs, hm, hx⟩ := Option.map_eq_some_iff.1 h
      have hxs : xs.map (·.1) = zs.map fun z => (DataW.lit (.string z.data.toList) : DataW H) := by
        have := congrArg Prod.fst hx
        simpa using this
      have hxl : xs.length = n := by simpa using Lib.mapM_length hm
      have hzl : zs.length = n := by
        have := congrArg List.length hxs
        simp at this
        omega
      apply List.ext_getElem?
      intro i
      by_cases hi : i < n
      · obtain ⟨b, hb, hf⟩ := Lib.mapM_at hm i i (by simp [hi])
        obtain ⟨z, hc, rfl, _⟩ := DataW.trod_string he hf
        have h1 : cs[i]? = some (.string z) := by
          have := congrArg (·[0]?) hc
          simpa [List.getElem?_take, List.getElem?_drop] using this
        have h2 : (xs.map (·.1))[i]? = some (DataW.lit (.string z.data.toList) : DataW H) := by simp [hb]
        rw [hxs] at h2
        simp only [List.getElem?_map, Option.map_eq_some_iff, DataW.lit.injEq, Lit.string.injEq] at h2
        obtain ⟨z', hz', he'⟩ := h2
        have : z' = z := by
          obtain ⟨⟨l⟩⟩ := z'
          obtain ⟨⟨l'⟩⟩ := z
          simp at he'
          rw [he']
        subst this
        simp [h1, hz']
      · rw [List.getElem?_eq_none (by omega), List.getElem?_eq_none (by simp; omega)]
    · cases h
/-- The package variable as the program's text lays it. -/
def keyTab (w : World) : Prop := w.var? Tryd.prog "loop.example/medlar/impl.keyRows" = some #[.string row0, .string row1, .string row2]
theorem keyTab.cells {w : World} (h : keyTab w) : w.cell? ⟨0, 0, none⟩ = some (.string row0) ∧ w.cell? ⟨0, 1, none⟩ = some (.string row1) ∧ w.cell? ⟨0, 2, none⟩ = some (.string row2) := by
  have hg : Tryd.prog.globalNamed "loop.example/medlar/impl.keyRows" = some 0 := by kernel_rfl
  have hv := h
  unfold keyTab at hv
  exact ⟨by simpa using World.var?_cell hg hv 0, by simpa using World.var?_cell hg hv 1, by simpa using World.var?_cell hg hv 2⟩
theorem keyTab.below {w w' : World} (h : keyTab w) (hb : Below w.heap.size w w') : keyTab w' := by
  have hg : Tryd.prog.globalNamed "loop.example/medlar/impl.keyRows" = some 0 := by kernel_rfl
  unfold keyTab World.var? at h ⊢
  simp only [hg, Option.bind_some] at h ⊢
  have hlt : 0 < w.heap.size := by
    rcases Nat.lt_or_ge 0 w.heap.size with h' | h'
    · exact h'
    · simp [Array.getElem?_eq_none h'] at h
  rw [hb.block _ hlt]; exact h
/-- Where a byte stands in a row; -1 if it does not. -/
def key0 (c : UInt8) : Int := Lib.indexByte row0.data.toList c
def key1 (c : UInt8) : Int := Lib.indexByte row1.data.toList c
def key2 (c : UInt8) : Int := Lib.indexByte row2.data.toList c
def kpB (c : UInt8) : Int × Int := if 0 ≤ key0 c then (0, key0 c) else if 0 ≤ key1 c then (1, key1 c) else if 0 ≤ key2 c then (2, key2 c) else (-1, -1)
theorem kp_all : ∀ n : Fin 256, (decide (97 ≤ n.val) && decide (n.val ≤ 122)) = decide (0 ≤ (kpB (UInt8.ofNat n.val)).1) ∧ (-1 ≤ (kpB (UInt8.ofNat n.val)).1 ∧ (kpB (UInt8.ofNat n.val)).1 ≤ 2 ∧ -1 ≤ (kpB (UInt8.ofNat n.val)).2 ∧ (kpB (UInt8.ofNat n.val)).2 ≤ 9) := by decide +kernel
theorem kp_facts (c : UInt8) : (decide (97 ≤ c.toNat) && decide (c.toNat ≤ 122)) = decide (0 ≤ (kpB c).1) ∧ (-1 ≤ (kpB c).1 ∧ (kpB c).1 ≤ 2 ∧ -1 ≤ (kpB c).2 ∧ (kpB c).2 ≤ 9) := by
  have h := kp_all ⟨c.toNat, c.toNat_lt⟩
  simpa using h
theorem ib_of {l : List UInt8} {c : UInt8} {o : Nat} (h : l[o]? = some c) (hn : ∀ k : Nat, k < o → l[k]? ≠ some c) : Lib.indexByte l c = o := by
  have hge := Lib.indexByte_ge l c
  rcases Int.lt_or_le (Lib.indexByte l c) 0 with h0 | h0
  · exact absurd h (Lib.indexByte_none (by omega) o)
  · obtain ⟨o', he⟩ := Int.eq_ofNat_of_zero_le h0
    have h1 := Lib.indexByte_some he
    rcases Nat.lt_trichotomy o o' with hlt | rfl | hgt
    · exact absurd h (h1.2 o hlt)
    · exact he
    · exact absurd h1.1 (hn o' hgt)
theorem ib_none {l : List UInt8} {c : UInt8} (hn : ∀ k : Nat, l[k]? ≠ some c) : Lib.indexByte l c = -1 := by
  have hge := Lib.indexByte_ge l c
  rcases Int.lt_or_le (Lib.indexByte l c) 0 with h0 | h0
  · omega
  · obtain ⟨o', he⟩ := Int.eq_ofNat_of_zero_le h0
    exact absurd (Lib.indexByte_some he).1 (hn o')
/-- A text's place on the keyboard. -/
def kpT (s : ByteArray) : Int × Int := if h : s.size = 1 then kpB (s[0]'(by omega)) else (-1, -1)
theorem kpT_one (c : UInt8) : kpT ⟨#[c]⟩ = kpB c := rfl
theorem kpT_other (s : ByteArray) (h : ¬ s.size = 1) : kpT s = (-1, -1) := by unfold kpT; rw [dif_neg h]
theorem one_byte (s : ByteArray) (h : s.size = 1) : ∃ c, s = ⟨#[c]⟩ := by
  obtain ⟨⟨l⟩⟩ := s
  match l, h with
  | [c], _ => exact ⟨c, rfl⟩
/-- How far two numbers are. -/
def apI (a b : Int) : Int := if a < b then b - a else a - b
/-- How far two letters are. -/
def kfB (p q : Int × Int) : Int := ls (if apI p.1 q.1 < apI p.2 q.2 then apI p.2 q.2 else apI p.1 q.1) 4
def kfT (a b : ByteArray) : Int := if (kpT a).1 < 0 ∨ (kpT b).1 < 0 then -1 else kfB (kpT a) (kpT b)
theorem apI_bounds (a b : Int) (ha : -1 ≤ a) (ha' : a ≤ 100) (hb : -1 ≤ b) (hb' : b ≤ 100) : 0 ≤ apI a b ∧ apI a b ≤ 101 := by unfold apI; split <;> omega
set_option maxHeartbeats 400000 in
theorem apart_any (a b : Int) (w : World) (ha : -1 ≤ a) (ha' : a ≤ 100) (hb : -1 ≤ b) (hb' : b ≤ 100) :
    Calls Tryd.prog 15 #[.int .i64 a, .int .i64 b] w fun e w' => e = .returned (.int .i64 (apI a b)) ∧ w' = w := by
  by_cases h : a < b
  all_goals
    go_enter Tryd.func15, Tryd.ntmps15
    go_wp2
    all_goals
      go_ret
      exact ⟨ret_k (by unfold apI; split <;> omega), rfl⟩
set_option maxHeartbeats 400000 in
theorem l10Apart_any (a b : Int) (w : World) (ha : -1 ≤ a) (ha' : a ≤ 100) (hb : -1 ≤ b) (hb' : b ≤ 100) :
    Calls Tryd.prog 26 #[.int .i64 a, .int .i64 b] w fun e w' => e = .returned (.int .i64 (apI a b)) ∧ w' = w := by
  by_cases h : a < b
  all_goals
    go_enter Tryd.func26, Tryd.ntmps26
    go_wp2
    go_ret
    exact ⟨ret_k (by unfold apI; split <;> omega), rfl⟩
theorem index_k0 (c : UInt8) (w : World) : Calls Tryd.prog 23 #[.string row0, .string ⟨#[c]⟩] w fun e w' => e = .returned (.int .i64 (key0 c)) ∧ w' = w := Tryd.strings_Index_one row0 c w
theorem index_k1 (c : UInt8) (w : World) : Calls Tryd.prog 23 #[.string row1, .string ⟨#[c]⟩] w fun e w' => e = .returned (.int .i64 (key1 c)) ∧ w' = w := Tryd.strings_Index_one row1 c w
theorem index_k2 (c : UInt8) (w : World) : Calls Tryd.prog 23 #[.string row2, .string ⟨#[c]⟩] w fun e w' => e = .returned (.int .i64 (key2 c)) ∧ w' = w := Tryd.strings_Index_one row2 c w
theorem none_at (l : List UInt8) (c : UInt8) (h : Lib.indexByte l c < 0) : ∀ k : Nat, l[k]? ≠ some c := Lib.indexByte_none (by have := Lib.indexByte_ge l c; omega)
set_option maxHeartbeats 1000000 in
theorem keyPlace_any (s : ByteArray) (w : World) (hs : s.size ≤ maxLen) (ht : keyTab w) :
    Calls Tryd.prog 14 #[.string s] w fun e w' => e = .returned (.tuple #[.int .i64 (kpT s).1, .int .i64 (kpT s).2]) ∧ w' = w := by
  unfold maxLen at hs
  by_cases h1 : s.size = 1
  · obtain ⟨c, rfl⟩ := one_byte s h1
    obtain ⟨c0, c1, c2⟩ := ht.cells
    have HT : Hid (keyTab w) := ht
    rw [kpT_one]
    have HK : Hid (kpB c = if 0 ≤ key0 c then (0, key0 c) else if 0 ≤ key1 c then (1, key1 c) else if 0 ≤ key2 c then (2, key2 c) else (-1, -1)) := rfl
    clear ht h1 hs
    go_enter Tryd.func14, Tryd.ntmps14
    go_wp2
    go_loop [11] (fun i => ∃ k : Nat, k ≤ 3 ∧ i = .int .i64 k ∧ (0 < k → key0 c < 0) ∧ (1 < k → key1 c < 0) ∧ (2 < k → key2 c < 0)) (fun i => 3 - (intOf i).toNat)
    case atStart => exact ⟨0, by omega, rfl, by omega, by omega, by omega⟩
    case round =>
      obtain ⟨k, hk, rfl, g0, g1, g2⟩ := hrel
      rcases (show k = 0 ∨ k = 1 ∨ k = 2 ∨ k = 3 by omega) with rfl | rfl | rfl | rfl
      · have hix : ∀ w : World, (Instr.index 43 (.agg #[.string row0, .string row1, .string row2]) (.int .i64 0)).run Tryd.prog w = .ok (.string row0) w := fun _ => by kernel_rfl
        by_cases hz : (0 : Int) ≤ key0 c
        · have HD : Hid (kpB c = (0, key0 c)) := by show kpB c = _; rw [HK.out]; rw [if_pos hz]
          go_wp2_with (go_at_call 23; refine (index_k0 c _).mono ?_; rintro e w' ⟨rfl, rfl⟩)
          refine bodyPost_ret (v := .tuple #[.int .i64 0, .int .i64 (key0 c)]) (by simp [results, Tryd.results14, go_sem]) rfl ⟨?_, rfl⟩
          rw [HD.out]
        · go_wp2_with (go_at_call 23; refine (index_k0 c _).mono ?_; rintro e w' ⟨rfl, rfl⟩)
          go_round
          case rel => exact ⟨1, by omega, rfl, fun _ => by omega, by omega, by omega⟩
          case measure => simp [intOf]
      · have hix : ∀ w : World, (Instr.index 43 (.agg #[.string row0, .string row1, .string row2]) (.int .i64 1)).run Tryd.prog w = .ok (.string row1) w := fun _ => by kernel_rfl
        by_cases hz : (0 : Int) ≤ key1 c
        · have HD : Hid (kpB c = (1, key1 c)) := by show kpB c = _; have q0 := g0 (by omega); rw [HK.out]; rw [if_neg (by omega)]; rw [if_pos hz]
          go_wp2_with (go_at_call 23; refine (index_k1 c _).mono ?_; rintro e w' ⟨rfl, rfl⟩)
          refine bodyPost_ret (v := .tuple #[.int .i64 1, .int .i64 (key1 c)]) (by simp [results, Tryd.results14, go_sem]) rfl ⟨?_, rfl⟩
          rw [HD.out]
        · go_wp2_with (go_at_call 23; refine (index_k1 c _).mono ?_; rintro e w' ⟨rfl, rfl⟩)
          go_round
          case rel => exact ⟨2, by omega, rfl, fun _ => g0 (by omega), fun _ => by omega, by omega⟩
          case measure => simp [intOf]
      · have hix : ∀ w : World, (Instr.index 43 (.agg #[.string row0, .string row1, .string row2]) (.int .i64 2)).run Tryd.prog w = .ok (.string row2) w := fun _ => by kernel_rfl
        by_cases hz : (0 : Int) ≤ key2 c
        · have HD : Hid (kpB c = (2, key2 c)) := by show kpB c = _; have q0 := g0 (by omega); have q1 := g1 (by omega); rw [HK.out]; rw [if_neg (by omega)]; rw [if_neg (by omega)]; rw [if_pos hz]
          go_wp2_with (go_at_call 23; refine (index_k2 c _).mono ?_; rintro e w' ⟨rfl, rfl⟩)
          refine bodyPost_ret (v := .tuple #[.int .i64 2, .int .i64 (key2 c)]) (by simp [results, Tryd.results14, go_sem]) rfl ⟨?_, rfl⟩
          rw [HD.out]
        · go_wp2_with (go_at_call 23; refine (index_k2 c _).mono ?_; rintro e w' ⟨rfl, rfl⟩)
          go_round
          case rel => exact ⟨3, by omega, rfl, fun _ => g0 (by omega), fun _ => g1 (by omega), fun _ => by omega⟩
          case measure => simp [intOf]
      · have HD : Hid (kpB c = (-1, -1)) := by
          show kpB c = _
          have q0 := g0 (by omega)
          have q1 := g1 (by omega)
          have q2 := g2 (by omega)
          rw [HK.out, if_neg (by omega), if_neg (by omega), if_neg (by omega)]
        go_wp2_with fail
        refine bodyPost_ret (v := .tuple #[.int .i64 (-1), .int .i64 (-1)]) (by simp [results, Tryd.results14, go_sem]) rfl ⟨?_, rfl⟩
        rw [HD.out]
  · have HC : Hid (kpT s = (-1, -1)) := kpT_other s h1
    have h1' : ¬ (s.size : Int) = 1 := by omega
    go_enter Tryd.func14, Tryd.ntmps14
    go_wp2
    refine bodyPost_ret (v := .tuple #[.int .i64 (-1), .int .i64 (-1)]) (by simp [results, Tryd.results14, go_sem]) rfl ⟨?_, rfl⟩
    rw [HC.out]
end Go.Proofs.YtbebikodkfmehaaDoor
