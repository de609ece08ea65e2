/-
  strings.Builder: copyCheck and WriteByte; the closure of impl.walk keeps all else.
-/
import Derived.Test.YtlpcmikljhoabaaW54
import Derived.Lib.OthersKept
import Derived.Lib.Builder
import Derived.Lib.OwnKind
namespace Go.Proofs.Ytlpcmikljhoabaa
open Go.RowKit
set_option linter.unusedVariables false
theorem Try.size_builder : (Try.prog.info? 55).map (·.size) = some 2 := by kernel_rfl
theorem Try.lies_builder : liesAt Try.prog Try.prog.depth 55 (2 / Try.prog.cellsOf 55) 0 55 1 = true := by kernel_rfl
theorem Try.info_byte : (Try.prog.info? 5).map (fun i => (i.zero, i.size, i.bytes)) = some (some (.int .u8 0), 1, 1) := by kernel_rfl
set_option maxHeartbeats 1000000 in
set_option maxRecDepth 100000 in
theorem copyCheck_used (b : Nat) (w : World) (h0 : w.cell? ⟨b, 0, none⟩ = some (.pointer (some ⟨b, 0, none⟩))) :
    Calls Try.prog 44 #[.pointer (some ⟨b, 0, none⟩)] w fun e w' => e = .returned (.tuple #[]) ∧ w' = w := by
  obtain ⟨j, hj, _⟩ := Option.map_eq_some_iff.1 Try.size_builder
  go_enter Try.func44, Try.ntmps44
  go_wp2
  rw [Lib.run_neq_ptr_same w _ Try.underlying53 hj]
  go_wp2
  go_end0
  exact ⟨rfl, rfl⟩
set_option maxHeartbeats 1000000 in
set_option maxRecDepth 100000 in
theorem copyCheck_fresh (b : Nat) (w : World) (h0 : w.cell? ⟨b, 0, none⟩ = some (.pointer none)) (hsh : w.shape? b = some (55, 2)) (hfz : w.frozen? ⟨b, 0, none⟩ = false) :
    Calls Try.prog 44 #[.pointer (some ⟨b, 0, none⟩)] w fun e w' => e = .returned (.tuple #[]) ∧ w' = w.setCell ⟨b, 0, none⟩ (.pointer (some ⟨b, 0, none⟩)) := by
  obtain ⟨j, hj, hjs⟩ := Option.map_eq_some_iff.1 Try.size_builder
  go_enter Try.func44, Try.ntmps44
  go_wp2
  rw [Lib.run_to_unsafe w ⟨b, 0, none⟩ Try.underlying53 Try.underlying70 hj (by rw [hjs]; decide) hsh (Nat.zero_lt_succ 1)]
  simp only [Result.andThen]
  rw [Oper.upon_value]
  go_wp2
  rw [run_callFunc_extern Try.func47 (by kernel_rfl) (by kernel_rfl) (by kernel_rfl) (e := Extern.AbiNoEscape.same) (by kernel_rfl)]
  rw [Lib.run_noEscape]
  simp only [Result.andThen]
  rw [Oper.upon_value]
  go_wp2
  rw [Lib.run_from_unsafe w ⟨b, 0, none⟩ Try.underlying70 Try.underlying53 hj hsh Try.lies_builder]
  simp only [Result.andThen]
  rw [Oper.upon_value]
  go_wp2
  go_end0
  exact ⟨rfl, rfl⟩
set_option maxHeartbeats 2000000 in
set_option maxRecDepth 100000 in
theorem writeByte_any (B b : Nat) (bs : List Value) (c : Int) (w : World) (h : Lib.IsBuilder 55 5 B b bs w) (hlen : bs.length ≤ 1000000) (hBw : B ≤ w.heap.size) :
    Calls Try.prog 33 #[.pointer (some ⟨b, 0, none⟩), .int .u8 c] w fun e w' => e = .returned .nilIface ∧ Lib.IsBuilder 55 5 B b (bs ++ [.int .u8 c]) w' ∧ Below B w w' ∧ Lib.OthersKept 5 (some b) w w' := by
  obtain ⟨i0, hi, hz0, hz1, hz2⟩ := info_parts Try.info_byte
  have HC : Calls Try.prog 44 #[.pointer (some ⟨b, 0, none⟩)] w fun e w' => e = .returned (.tuple #[]) ∧ Lib.BuilderAt 55 5 B b (.pointer (some ⟨b, 0, none⟩)) bs w' ∧ Below B w w' ∧ Lib.OthersKept 5 (some b) w w' := by
    rcases h with h | h
    · refine (copyCheck_fresh b w h.cell0 h.shape h.frozen0).mono ?_
      rintro e w' ⟨rfl, rfl⟩
      exact ⟨rfl, h.used _, (Below.refl B w).setCell (p := ⟨b, 0, none⟩) h.1 _, (Lib.OthersKept.refl _ _ w).setCell ⟨b, 0, none⟩ rfl _⟩
    · refine (copyCheck_used b w h.cell0).mono ?_
      rintro e w' ⟨rfl, rfl⟩
      exact ⟨rfl, h, Below.refl B _, Lib.OthersKept.refl _ _ _⟩
  go_enter Try.func33, Try.ntmps33
  go_wp2_with (go_at_call 44; refine HC.mono ?_)
  rintro e w1 ⟨rfl, h1, hb1, hk1⟩
  clear HC h
  obtain ⟨hB, v, hbk, hown, hne⟩ := h1
  have hlt : b < w1.heap.size := (Array.getElem?_eq_some_iff.1 hbk).1
  have c0 : w1.cell? ⟨b, 0, none⟩ = some (.pointer (some ⟨b, 0, none⟩)) := by rw [Lib.cell_of_heap hbk]; rfl
  have c1 : w1.cell? ⟨b, 1, none⟩ = some v := by rw [Lib.cell_of_heap hbk]; rfl
  go_wp2_with (at_builtin; refine wpList_append_own _ rfl _ _ 52 rfl B 5 i0 (.int .u8 0) 1 1 Try.underlying52 hi hz0 hz1 hz2 rfl (by decide) _ _ _ rfl (hown.alloc _) ⟨w1.heap.size, 0, none⟩ 1 1 [.int .u8 c] rfl rfl ?c1 ?c2 ?c3 ?c4 ?c5 ?_)
  case c1 =>
    intro j u hj
    match j, hj with
    | 0, hj => simp at hj; subst hj; simp [Addr.add]
  case c2 => intro u hu; simp at hu; subst hu; rfl
  case c3 => unfold maxLen; omega
  case c4 => omega
  case c5 => have := hb1.size; simp; omega
  intro v' w2 hown' hgrow _
  have hb2 : w2.heap[b]? = some (.cells #[.pointer (some ⟨b, 0, none⟩), v] 55 (0, 0)) := by
    rw [hgrow.block b (by simp; omega) (fun e => hne e.symm), Below.heap_alloc w1 _ b hlt]
    exact hbk
  have d0 : w2.cell? ⟨b, 0, none⟩ = some (.pointer (some ⟨b, 0, none⟩)) := by rw [Lib.cell_of_heap hb2]; rfl
  have d1 : w2.cell? ⟨b, 1, none⟩ = some v := by rw [Lib.cell_of_heap hb2]; rfl
  have f1 : w2.frozen? ⟨b, 1, none⟩ = false := Lib.frozen_of_heap hb2 1
  obtain ⟨g, cap, rfl⟩ : ∃ g cap, v' = .slice (some ⟨g, 0, none⟩) (bs.length + 1) cap := by
    rcases hown'.2 with ⟨_, h0⟩ | ⟨g, cap, cur, hv, _⟩
    · omega
    · exact ⟨g, cap, hv⟩
  go_wp2
  go_ret
  refine ⟨rfl, .inr ?_, ?_, ((hk1.alloc _).grown hgrow (Lib.ownsRow_kind (hown.alloc _))).setCell ⟨b, 1, none⟩ rfl _⟩
  · exact Lib.BuilderAt.put (T := 55) (e := 5) hB hb2 (bs' := bs ++ [.int .u8 c]) (by simpa using hown') (by decide)
  · exact ((hb1.alloc (by have := hb1.size; omega) _).grown hgrow (by have := hb1.size; simp; omega) (fun k hk => (hown.lt k hk).1)).setCell (p := ⟨b, 1, none⟩) hB _
/-- A builder is kept where its block and its row are. -/
theorem builder_kept {T e : TypeId} {B b : Nat} {bs : List Value} {w w' : World} (h : Lib.IsBuilder T e B b bs w) (P : Nat) (hP : ∀ k, k < w.heap.size → k ≠ P → w'.heap[k]? = w.heap[k]?) (hbP : b ≠ P) (hcP : ∀ c fz, w.heap[P]? ≠ some (.cells c e fz)) : Lib.IsBuilder T e B b bs w' := by
  have key : ∀ p, Lib.BuilderAt T e B b p bs w → Lib.BuilderAt T e B b p bs w' := by
    rintro p ⟨hB, v, hb, hown, hne⟩
    have hlt : b < w.heap.size := (Array.getElem?_eq_some_iff.1 hb).1
    refine ⟨hB, v, (hP b hlt hbP).trans hb, ⟨hown.1, ?_⟩, hne⟩
    rcases hown.2 with h2 | ⟨g, cap, cur, hv, hg, hh, r⟩
    · exact .inl h2
    · have hg2 : g < w.heap.size := (Array.getElem?_eq_some_iff.1 hh).1
      exact .inr ⟨g, cap, cur, hv, hg, (hP g hg2 (fun e => hcP _ _ (by rw [← e]; exact hh))).trans hh, r⟩
  exact h.imp (key _) (key _)
theorem builder_below {T e : TypeId} {B b : Nat} {bs : List Value} {w w' : World} (h : Lib.IsBuilder T e B b bs w) (hb : Below w.heap.size w w') : Lib.IsBuilder T e B b bs w' :=
  builder_kept h w.heap.size (fun k hk _ => hb.block k hk) (by
    rcases h with ⟨_, v, hb, _⟩ | ⟨_, v, hb, _⟩ <;> exact Nat.ne_of_lt (Array.getElem?_eq_some_iff.1 hb).1) (fun c fz h => by rw [Array.getElem?_eq_none (Nat.le_refl _)] at h; cases h)
set_option maxHeartbeats 1000000 in
theorem walk1_kept (w : World) (P Q : Nat) (v : Value) (ss : List Sta) (p c : Nat) (h : StatesAt w v ss) (hok : stasOk ss = true) (hm : w.cell? ⟨Q, 0, none⟩ = some v)
    (ha : w.heap[P]? = some (.cells #[.int .i64 p] 3 (0, 0))) (hpl : p < ss.length) (hc8 : c ≤ 255) :
    Calls Try.prog 42 #[.int .u8 c, .pointer (some ⟨P, 0, none⟩), .pointer (some ⟨Q, 0, none⟩)] w fun e w' =>
      e = .returned (.int .i64 (goT ss p c)) ∧ w'.heap[P]? = some (.cells #[.int .i64 (goT ss p c)] 3 (0, 0)) ∧ (∀ k, k < w.heap.size → k ≠ P → w'.heap[k]? = w.heap[k]?) ∧ Below P w w' := by
  obtain ⟨sa, cap, rfl, hc, hmx⟩ := h.form
  have HS : Hid (StatesAt w (.slice sa ss.length cap) ss) := h
  have HO : Hid (stasOk ss = true) := hok
  have HA : Hid (w.heap[P]? = some (.cells #[.int .i64 p] 3 (0, 0))) := ha
  have hP : P < w.heap.size := (Array.getElem?_eq_some_iff.1 ha).1
  have hac : w.cell? ⟨P, 0, none⟩ = some (.int .i64 p) := by simp [World.cell?, ha]
  clear h hok ha
  unfold maxLen at hmx
  obtain ⟨b', off, cap', s, ev, hv, _, _, hbl, hs, c1, c2, hev⟩ := HS.out.at hpl
  cases hv
  have HG : Hid (goT ss p c = lastT s.es c) := goT_at hs _
  have HE : Hid (EdgesIn 0 w ev s.es) := hev
  have HD : Hid (edsOk (p + 1) ss.length s.es = true) := staOk_es (stasOk_at HO.out hs)
  have hp0 : (p : Int) ≥ 0 := by omega
  clear hs hev
  go_enter Try.func42, Try.ntmps42
  go_wp2_with fail
  refine (to_any _ _ _ s.es c _ _ HE.out HD.out hc8).mono ?_
  rintro e w' ⟨rfl, hb'⟩
  have HB : Hid (Below w.heap.size w w') := hb'
  have HA' : Hid (w'.heap[P]? = some (.cells #[.int .i64 p] 3 (0, 0))) := (hb'.block P hP).trans HA.out
  have ha' : w'.cell? ⟨P, 0, none⟩ = some (.int .i64 p) := (hb'.cell (p := ⟨P, 0, none⟩) hP).trans hac
  have hf' : w'.frozen? ⟨P, 0, none⟩ = false := by have := HA'.out; simp [World.frozen?, this]
  clear hb' hac c1 c2 hm
  go_wp2
  go_ret
  rw [HG.out]
  refine ⟨rfl, ?_, fun k hk hne => ?_, (HB.out.mono (B' := P) (by omega)).setCell (p := ⟨P, 0, none⟩) (Nat.le_refl _) _⟩
  · have := HA'.out
    simp [World.setCell, Array.getElem?_modify, this]
  · rw [Below.heap_setCell _ _ _ _ hne]
    exact HB.out.block k hk
end Go.Proofs.Ytlpcmikljhoabaa
