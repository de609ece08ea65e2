/-
  impl.PatternGet.
-/
import Derived.Test.YtehpdlokacdifaaW344
import Derived.Test.YtehpdlokacdifaaGM46
import Derived.Test.YtehpdlokacdifaaW12
import Derived.Laws.OwnMore
import Derived.Deep.RegionHeld3
namespace Go.Proofs.Ytehpdlokacdifaa
open Go.RowKit
set_option linter.unusedVariables false
/-- Numbers as cells. -/
def intV (ns : List Int) : List Value := ns.map fun n => .int .i64 n
theorem intV_length (ns : List Int) : (intV ns).length = ns.length := by simp [intV]
theorem intV_app (a b : List Int) : intV (a ++ b) = intV a ++ intV b := by simp [intV]
theorem intV_set (ns : List Int) (j : Nat) (x : Int) : (intV ns).set j (.int .i64 x) = intV (ns.set j x) := by simp [intV, List.map_set]
theorem intV_at {ns : List Int} {j : Nat} {x : Int} (h : ns[j]? = some x) : (intV ns)[j]? = some (.int .i64 x) := by simp [intV, h]
theorem intsAt_owns {w : World} {lo : Nat} {v : Value} {ns : List Int} (h : w.ownsRow lo 3 1 v ns.length (intV ns)) : IntsAt w v ns := by
  rcases h.2 with ⟨rfl, h0⟩ | ⟨g, cap, cur, rfl, hbase, hb, h1, h2, h3, h4⟩
  · have hz : ns = [] := List.length_eq_zero_iff.1 h0
    subst hz
    exact ⟨none, 0, rfl, Nat.le_refl _, Nat.zero_le _, fun hn => absurd rfl hn⟩
  · have hg : g < w.heap.size := (Array.getElem?_eq_some_iff.1 hb).1
    refine ⟨some ⟨g, 0, none⟩, cap, rfl, h1, Nat.le_trans h1 h2, fun _ => ⟨g, 0, rfl, hg, fun i x hx => ?_⟩⟩
    have hi : i < ns.length := (List.getElem?_eq_some_iff.1 hx).1
    rw [cell_of_row w g _ cur _ _ hb, Nat.zero_add]
    have e1 : (cur.toList.take (ns.length * 1))[i]? = (intV ns)[i]? := by rw [h4]
    rw [List.getElem?_take_of_lt (by omega), intV_at hx, Array.getElem?_toList] at e1
    exact e1
/-- A row of numbers is kept by what a builder's writers do. -/
theorem owns_others {w w' : World} {lo b : Nat} {v : Value} {ns : List Int} {cB : Array Value} {fB : Nat × Nat} (h : w.ownsRow lo 3 1 v ns.length (intV ns)) (hk : Lib.OthersKept 5 (some b) w w') (hb : w.heap[b]? = some (.cells cB 39 fB)) :
    w'.ownsRow lo 3 1 v ns.length (intV ns) := by
  refine ⟨h.1, ?_⟩
  rcases h.2 with h2 | ⟨g, cap, cur, hv, hg, hh, r⟩
  · exact .inl h2
  · refine .inr ⟨g, cap, cur, hv, hg, hk g _ hh (fun e => ?_) (fun c fz e => ?_), r⟩
    · have e2 : g = b := Option.some.inj e
      rw [e2, hb] at hh
      simp at hh
    · simp at e
theorem owns_belowI {w w' : World} {lo : Nat} {v : Value} {ns : List Int} (h : w.ownsRow lo 3 1 v ns.length (intV ns)) (hb : Below w.heap.size w w') : w'.ownsRow lo 3 1 v ns.length (intV ns) := by
  refine ⟨h.1, ?_⟩
  rcases h.2 with h2 | ⟨g, cap, cur, hv, hg, hh, r⟩
  · exact .inl h2
  · exact .inr ⟨g, cap, cur, hv, hg, (hb.block g (Array.getElem?_eq_some_iff.1 hh).1).trans hh, r⟩
/-- A builder's own block. -/
theorem builder_block {T e : TypeId} {B b : Nat} {bs : List Value} {w : World} (h : Lib.IsBuilder T e B b bs w) : ∃ c fz, w.heap[b]? = some (.cells c T fz) := by
  rcases h with ⟨_, v, hb, _⟩ | ⟨_, v, hb, _⟩ <;> exact ⟨_, _, hb⟩
theorem Try.info_intJ : (Try.prog.info? 3).map (fun i => (i.zero, i.size, i.bytes)) = some (some (.int .i64 0), 1, 8) := by kernel_rfl
theorem between_eq5 (s : ByteArray) (lo hi : Int) (b : Bool) (w : World) (hs : s.size ≤ maxLen) (h : inr lo hi s.data.toList = b) :
    Calls Try.prog 17 #[.string s, .int .u8 lo, .int .u8 hi] w fun e w' => e = .returned (.bool b) ∧ w' = w := by
  rw [← h]; exact between_any s lo hi w hs
/-- What is read of a text, and whether it was one. -/
def gpM (t : ByteArray) : PatM := (⟨(rdL t.data.toList t.size).toArray⟩, rdN t.data.toList t.size)
def gpOk (t : ByteArray) : Bool := decide (1 ≤ t.size) && ((ppT (gpM t)).toList == t.toList)
/-- What PatternGet tells. -/
def gpPost (t : ByteArray) (w : World) (e : Ending) (w' : World) : Prop :=
  ∃ (x : PatM) (vn : Value), e = .returned (.tuple #[.agg #[.string x.1, vn], .bool (gpOk t)]) ∧ x = (if gpOk t then gpM t else (⟨#[]⟩, [])) ∧ w'.ownsRow w.heap.size 3 1 vn x.2.length (intV x.2) ∧ Below w.heap.size w w'
theorem alloc_cellJ (w : World) (o : Obj) (b i : Nat) (h : b < w.heap.size) : (w.alloc o).cell? ⟨b, i, none⟩ = w.cell? ⟨b, i, none⟩ := ((Below.refl w.heap.size w).alloc (Nat.le_refl _) o).cell (p := ⟨b, i, none⟩) h
theorem owns_lowJ {w : World} {lo lo' : Nat} {v : Value} {n : Nat} {xs : List Value} (h : w.ownsRow lo 3 1 v n xs) (hl : lo' ≤ lo) : w.ownsRow lo' 3 1 v n xs := by
  refine ⟨h.1, ?_⟩
  rcases h.2 with h2 | ⟨g, cap, cur, hv, hg, r⟩
  · exact .inl h2
  · exact .inr ⟨g, cap, cur, hv, by omega, r⟩
theorem owns_setJ {w : World} {lo b i : Nat} {v u : Value} {n : Nat} {xs : List Value} (h : w.ownsRow lo 3 1 v n xs) (hb : b < lo) : (w.setCell ⟨b, i, none⟩ u).ownsRow lo 3 1 v n xs := by
  refine ⟨h.1, ?_⟩
  rcases h.2 with h2 | ⟨g, cap, cur, hv, hg, hh, r⟩
  · exact .inl h2
  · exact .inr ⟨g, cap, cur, hv, hg, (Below.heap_setCell _ _ _ _ (by show g ≠ b; omega)).trans hh, r⟩
set_option maxRecDepth 100000 in
set_option maxHeartbeats 4000000 in
theorem implPatternGet_any (t : ByteArray) (w : World) (ht : t.size ≤ 1048576) :
    Calls Try.prog 6 #[.string t] w fun e w' => gpPost t w e w' := by
  obtain ⟨i0, hi, hz0, hz1, hz2⟩ := info_parts Try.info_intJ
  obtain ⟨W0, hW0⟩ : ∃ W0, ((w.alloc (.cells #[.string ⟨#[]⟩, .slice none 0 0] 25)).alloc (.cells #[.pointer none, .slice none 0 0] 39)).alloc (.cells #[.int .i64 0] 3) = W0 := ⟨_, rfl⟩
  have HB0 : Hid (Below w.heap.size w W0) := by show Below _ _ _; rw [← hW0]; exact (((Below.refl _ _).alloc (Nat.le_refl _) _).alloc (by simp) _).alloc (by simp <;> omega) _
  have HSZ : Hid (W0.heap.size = w.heap.size + 3) := by show _ = _; rw [← hW0]; simp
  have HG0 : Hid (W0.heap[w.heap.size + 2]? = some (.cells #[.int .i64 0] 3 (0, 0))) := by
    show _ = _
    rw [← hW0]
    have := heap_alloc_last ((w.alloc (.cells #[.string ⟨#[]⟩, .slice none 0 0] 25)).alloc (.cells #[.pointer none, .slice none 0 0] 39)) (.cells #[.int .i64 0] 3)
    simpa using this
  have HG1 : Hid (W0.heap[w.heap.size + 1]? = some (.cells #[.pointer none, .slice none 0 0] 39 (0, 0))) := by
    show _ = _
    rw [← hW0, Below.heap_alloc _ _ _ (by simp)]
    have := heap_alloc_last (w.alloc (.cells #[.string ⟨#[]⟩, .slice none 0 0] 25)) (.cells #[.pointer none, .slice none 0 0] 39)
    simpa using this
  have HG2 : Hid (W0.heap[w.heap.size]? = some (.cells #[.string ⟨#[]⟩, .slice none 0 0] 25 (0, 0))) := by
    show _ = _
    rw [← hW0, Below.heap_alloc _ _ _ (by simp <;> omega), Below.heap_alloc _ _ _ (by simp)]
    exact heap_alloc_last w _
  have I0 : Hid (Lib.IsBuilder 39 5 (w.heap.size + 1) (w.heap.size + 1) (Lib.byteCells []) W0) := .inl ⟨Nat.le_refl _, .slice none 0 0, HG1.out, World.ownsRow_nil .., by simp [Value.ownBlock]⟩
  have O0 : Hid (W0.ownsRow (w.heap.size + 1) 3 1 (.slice (some ⟨w.heap.size + 2, 0, none⟩) 1 1) 1 (intV [0])) := ⟨rfl, .inr ⟨w.heap.size + 2, 1, #[.int .i64 0], rfl, by omega, HG0.out, Nat.le_refl _, by decide, rfl, rfl⟩⟩
  go_enter Try.func6, Try.ntmps6
  go_wp2
  clear hW0
  go_loopw [5, 11] (fun v i wr => ∃ (k g cap : Nat), k ≤ t.size ∧ i = .int .i64 k ∧ v = .slice (some ⟨g, 0, none⟩) (rdN t.data.toList k).length cap ∧ wr.ownsRow (w.heap.size + 1) 3 1 (.slice (some ⟨g, 0, none⟩) (rdN t.data.toList k).length cap) (rdN t.data.toList k).length (intV (rdN t.data.toList k)) ∧
    Lib.IsBuilder 39 5 (w.heap.size + 1) (w.heap.size + 1) (Lib.byteCells (rdL t.data.toList k)) wr ∧ Below (w.heap.size + 1) W0 wr) (fun _ i _ => t.size - (intOf i).toNat)
  case atStart => exact ⟨0, w.heap.size + 2, 1, Nat.zero_le _, rfl, rfl, O0.out, I0.out, Below.refl _ _⟩
  case round =>
    obtain ⟨k, g, cap, hk, rfl, rfl, ho, hbd, hb⟩ := hrel
    have HO : Hid (wr.ownsRow (w.heap.size + 1) 3 1 (.slice (some ⟨g, 0, none⟩) (rdN t.data.toList k).length cap) (rdN t.data.toList k).length (intV (rdN t.data.toList k))) := ho
    have HBD : Hid (Lib.IsBuilder 39 5 (w.heap.size + 1) (w.heap.size + 1) (Lib.byteCells (rdL t.data.toList k)) wr) := hbd
    have HB : Hid (Below (w.heap.size + 1) W0 wr) := hb
    have hn1 := rdN_len t.data.toList k
    have hn2 := rdL_len t.data.toList k
    clear ho hbd hb
    by_cases hlt : k < t.size
    · have HK : Hid (t.data.toList[k]? = some t[k]) := at_get t k hlt
      have hE : (t.extract k (k + 1)).size ≤ maxLen := by unfold maxLen; rw [ByteArray.size_extract]; omega
      have HE : Hid _ := hE
      have HIN : Hid (inr 48 57 (t.extract k (k + 1)).data.toList = digB t[k]) := by
        show _ = _
        rw [ext_one5 t k hlt]; simp [inr, digB]
      have hk1 : (k : Int) < (t.size : Int) := by omega
      clear hE
      cases hd : digB t[k] with
      | true =>
        have HIX : Hid (inr 48 57 (t.extract k (k + 1)).data.toList = true) := HIN.out.trans hd
        have hst := rd_dig HK.out hd
        have HS1 : Hid _ := hst.1
        have HS2 : Hid _ := hst.2
        have hdd : 48 ≤ (t[k].toNat : Int) ∧ (t[k].toNat : Int) ≤ 57 := by unfold digB at hd; simpa using hd
        obtain ⟨p, hp⟩ : ∃ p : Nat, (rdN t.data.toList k).length - 1 = p := ⟨_, rfl⟩
        have hw1 : IntKind.i64.wrap (((rdN t.data.toList k).length : Int) - 1) = (p : Int) := by rw [IntWalk.i64_in _ (by omega)]; omega
        have hpl : (p : Int) < ((rdN t.data.toList k).length : Int) := by omega
        have hw2 : IntKind.u8.wrap ((t[k].toNat : Int) - 48) = (t[k].toNat : Int) - 48 := by simp [IntKind.wrap, IntKind.bits, IntKind.signed]; omega
        obtain ⟨x0, hpg⟩ : ∃ x0, (rdN t.data.toList k)[p]? = some x0 := ⟨_, List.getElem?_eq_getElem (by omega)⟩
        have cp : wr.cell? ⟨g, p, none⟩ = some (.int .i64 x0) := (World.ownsRow.cellAt HO.out p (by omega)).trans (intV_at hpg)
        have fp := World.ownsRow.frozenAt HO.out p
        obtain ⟨hs1, hs2⟩ := World.ownsRow.stored HO.out p (.int .i64 ((t[k].toNat : Int) - 48))
        rw [intV_set] at hs1
        have HN1 : Hid (rdN t.data.toList (k + 1) = (rdN t.data.toList k).set p ((t[k].toNat : Int) - 48)) := by show _ = _; rw [HS2.out, hp]
        have hlen : (rdN t.data.toList (k + 1)).length = (rdN t.data.toList k).length := by rw [HN1.out, List.length_set]
        have HLEN : Hid _ := hlen
        have HST : Hid ((wr.setCell ⟨g, p, none⟩ (.int .i64 ((t[k].toNat : Int) - 48))).ownsRow (w.heap.size + 1) 3 1 (.slice (some ⟨g, 0, none⟩) (rdN t.data.toList (k + 1)).length cap) (rdN t.data.toList (k + 1)).length (intV (rdN t.data.toList (k + 1)))) := by
          show World.ownsRow _ _ _ _ _ _ _
          rw [hlen, HN1.out]; exact hs1
        have HBD2 : Hid (Lib.IsBuilder 39 5 (w.heap.size + 1) (w.heap.size + 1) (Lib.byteCells (rdL t.data.toList (k + 1))) (wr.setCell ⟨g, p, none⟩ (.int .i64 ((t[k].toNat : Int) - 48)))) := by
          show Lib.IsBuilder _ _ _ _ _ _
          rw [HS1.out]
          have hgw : ∃ c fz, wr.heap[g]? = some (.cells c 3 fz) := by
            rcases HO.out.2 with ⟨h, _⟩ | ⟨g', c', cur, h, _, hh, _⟩
            · simp at h
            · simp only [Value.slice.injEq, Option.some.injEq, Addr.mk.injEq, and_true, true_and] at h
              obtain ⟨rfl, rfl⟩ := h
              exact ⟨_, _, hh⟩
          obtain ⟨cc, fz, hcc⟩ := hgw
          refine builder_kept HBD.out g (fun q hq hne => Below.heap_setCell _ _ _ _ hne) (fun e => ?_) (fun c f h => ?_)
          · obtain ⟨c1, f1, h1⟩ := builder_block HBD.out
            rw [e, hcc] at h1
            simp at h1
          · rw [hcc] at h
            simp at h
        have HB2 : Hid (Below (w.heap.size + 1) W0 (wr.setCell ⟨g, p, none⟩ (.int .i64 ((t[k].toNat : Int) - 48)))) := HB.out.setCell (by
          rcases HO.out.2 with ⟨h, _⟩ | ⟨g', c', cur, h, hb, hh, _⟩
          · simp at h
          · simp only [Value.slice.injEq, Option.some.injEq, Addr.mk.injEq, and_true, true_and] at h
            obtain ⟨rfl, rfl⟩ := h
            exact hb) _
        clear hs1 hs2 hst hd hpg hlen hn1 hn2
        go_wp2_with (go_at_call 17; refine (between_eq5 _ 48 57 _ _ HE.out HIX.out).mono ?_; rintro e w' ⟨rfl, hw⟩; have hw2 := hw.symm; clear hw; subst hw2)
        go_roundw
        case rel => exact ⟨k + 1, g, cap, by omega, by go_num, by rw [HLEN.out], HST.out, HBD2.out, HB2.out⟩
        case measure => simp [intOf]; omega
      | false =>
        have HIX : Hid (inr 48 57 (t.extract k (k + 1)).data.toList = false) := HIN.out.trans hd
        have hst := rd_let HK.out hd
        have HS1 : Hid _ := hst.1
        have HS2 : Hid _ := hst.2
        have HLEN : Hid ((rdN t.data.toList (k + 1)).length = (rdN t.data.toList k).length + 1) := by show _ = _; rw [hst.2]; simp
        have hnl : (rdN t.data.toList k).length ≤ 1048577 := by omega
        have hnp : 1 ≤ (rdN t.data.toList k).length := by omega
        have hll : (rdL t.data.toList k).length ≤ 1048576 := by omega
        obtain ⟨N, hN⟩ : ∃ N, (rdN t.data.toList k).length = N := ⟨_, rfl⟩
        have hszw := HB.out.size
        rw [hN] at HO hnl hnp HLEN
        have HNN : Hid ((rdN t.data.toList k).length = N) := hN
        clear hst hd hn1 hn2
        go_wp2_with (first | (go_at_call 17; refine (between_eq5 _ 48 57 _ _ HE.out HIX.out).mono ?_; rintro e w' ⟨rfl, hw⟩; have hw2 := hw.symm; clear hw; subst hw2))
        refine (writeByte_any (w.heap.size + 1) (w.heap.size + 1) _ _ _ HBD.out (by rw [Lib.byteCells_length]; omega) (by have := HSZ.out; omega)).mono ?_
        rintro e w3 ⟨rfl, hbd3, hb3, hk3⟩
        have HO3 : Hid (w3.ownsRow (w.heap.size + 1) 3 1 (.slice (some ⟨g, 0, none⟩) N cap) N (intV (rdN t.data.toList k))) := by
          obtain ⟨c1, f1, h1⟩ := builder_block HBD.out
          have := HO.out
          rw [← HNN.out] at this ⊢
          exact owns_others this hk3 h1
        have HBD3 : Hid (Lib.IsBuilder 39 5 (w.heap.size + 1) (w.heap.size + 1) (Lib.byteCells (rdL t.data.toList (k + 1))) w3) := by
          show Lib.IsBuilder _ _ _ _ _ _
          rw [HS1.out, bc_snoc]; exact hbd3
        have HB3 : Hid (Below (w.heap.size + 1) W0 w3) := HB.out.trans hb3
        have hsz3 := HB3.out.size
        clear hbd3 hb3 hk3
        go_wp2_with (at_builtin; refine wpList_append_own _ rfl _ _ 23 rfl (w.heap.size + 1) 3 i0 (.int .i64 0) 1 8 Try.underlying23 hi hz0 hz1 hz2 rfl (by decide) _ _ _ rfl (HO3.out.alloc _) ⟨w3.heap.size, 0, none⟩ 1 1 [.int .i64 0] rfl rfl ?c1 ?c2 ?c3 ?c4 ?c5 ?_)
        case c1 =>
          intro j u hj
          match j, hj with
          | 0, hj => simp at hj; subst hj; simp [Addr.add]
        case c2 => intro u hu; simp at hu; subst hu; rfl
        case c3 => unfold maxLen; omega
        case c4 => omega
        case c5 => have := HSZ.out; simp; omega
        intro v' w4 hown' hgrow _
        obtain ⟨g4, cap4, rfl⟩ : ∃ g cap, v' = .slice (some ⟨g, 0, none⟩) (N + 1) cap := by
          rcases hown'.2 with ⟨_, h0⟩ | ⟨g, cap, cur, hv, _⟩
          · omega
          · exact ⟨g, cap, hv⟩
        have hgw : ∃ c fz, w3.heap[g]? = some (.cells c 3 fz) := by
          rcases HO3.out.2 with ⟨h, _⟩ | ⟨g', c', cur, h, _, hh, _⟩
          · simp at h
          · simp only [Value.slice.injEq, Option.some.injEq, Addr.mk.injEq, and_true, true_and] at h
            obtain ⟨rfl, rfl⟩ := h
            exact ⟨_, _, hh⟩
        have HBD4 : Hid (Lib.IsBuilder 39 5 (w.heap.size + 1) (w.heap.size + 1) (Lib.byteCells (rdL t.data.toList (k + 1))) w4) := by
          obtain ⟨cc, fz, hcc⟩ := hgw
          refine builder_kept HBD3.out g (fun q hq hne => ?_) (fun e => ?_) (fun c f h => ?_)
          · rw [hgrow.block q (by simp; omega) (fun e => hne (by simpa [Value.ownBlock] using e)), Below.heap_alloc w3 _ q hq]
          · obtain ⟨c1, f1, h1⟩ := builder_block HBD3.out
            rw [e, hcc] at h1
            simp at h1
          · rw [hcc] at h
            simp at h
        have HB4 : Hid (Below (w.heap.size + 1) W0 w4) := (HB3.out.alloc (by have := HSZ.out; omega) _).grown hgrow (by have := HSZ.out; simp; omega) (fun q hq => (HO3.out.lt q hq).1)
        have HO4 : Hid (w4.ownsRow (w.heap.size + 1) 3 1 (.slice (some ⟨g4, 0, none⟩) (rdN t.data.toList (k + 1)).length cap4) (rdN t.data.toList (k + 1)).length (intV (rdN t.data.toList (k + 1)))) := by
          show World.ownsRow _ _ _ _ _ _ _
          rw [HLEN.out, HS2.out, intV_app]
          exact hown'
        clear hown' hgrow hgw
        go_wp2
        go_roundw
        case rel => exact ⟨k + 1, g4, cap4, by omega, by go_num, by rw [HLEN.out], HO4.out, HBD4.out, HB4.out⟩
        case measure => simp [intOf]; omega
    · obtain rfl : k = t.size := by omega
      have hsz0 := HSZ.out
      have hszr := HB.out.size
      obtain ⟨N, hN⟩ : ∃ N, (rdN t.data.toList t.size).length = N := ⟨_, rfl⟩
      rw [hN] at HO ⊢
      have HNN : Hid ((rdN t.data.toList t.size).length = N) := hN
      obtain ⟨L, hL⟩ : ∃ L : ByteArray, (⟨(rdL t.data.toList t.size).toArray⟩ : ByteArray) = L := ⟨_, rfl⟩
      have hLs : L.size ≤ 1048576 := by
        rw [← hL]
        show (List.toArray _).size ≤ _
        rw [List.size_toArray]; omega
      have HLS : Hid (L.size ≤ maxLen) := by show _ ≤ _; unfold maxLen; omega
      have HGP : Hid (gpM t = (L, rdN t.data.toList t.size)) := by show _ = _; unfold gpM; rw [hL]
      have HL : Hid _ := hL
      clear hN hL hn1 hn2 hk
      go_wp2_with fail
      refine (Try.Builder_String_any_k _ _ (rdL t.data.toList t.size) _ (Lib.IsBuilderF.of HBD.out) (by omega)).mono ?_
      rintro e w3 ⟨he, hF, hb3, hk3⟩
      rw [HL.out] at he
      subst he
      have HO3 : Hid (w3.ownsRow (w.heap.size + 1) 3 1 (.slice (some ⟨g, 0, none⟩) N cap) N (intV (rdN t.data.toList t.size))) := by
        obtain ⟨c1, f1, h1⟩ := builder_block HBD.out
        have := HO.out
        rw [← HNN.out] at this ⊢
        exact owns_others this hk3 h1
      have HB3 : Hid (Below (w.heap.size + 1) W0 w3) := HB.out.trans hb3
      have HG3 : Hid (w3.heap[w.heap.size]? = some (.cells #[.string ⟨#[]⟩, .slice none 0 0] 25 (0, 0))) := (HB3.out.block w.heap.size (by omega)).trans HG2.out
      have HBW3 : Hid (Below w.heap.size w w3) := HB0.out.trans (HB3.out.mono (by omega))
      have hz3 := HB3.out.size
      clear hF hb3 hk3
      by_cases h0 : t.toList = []
      · have h0' := (toList_nil4 t).1 h0
        have HF : Hid (gpOk t = false) := by show _ = _; unfold gpOk; simp [h0']
        have q0 : w3.cell? ⟨w.heap.size, 0, none⟩ = some (.string ⟨#[]⟩) := by rw [cell_of_row _ _ 0 _ _ _ HG3.out]; rfl
        have q1 : w3.cell? ⟨w.heap.size, 1, none⟩ = some (.slice none 0 0) := by rw [cell_of_row _ _ 1 _ _ _ HG3.out]; rfl
        have f0 := Go.Joins.unfrozen_of_block HG3.out 0
        have f1 := Go.Joins.unfrozen_of_block HG3.out 1
        have hlt3 : w.heap.size < w3.heap.size := by omega
        go_wp2_with fail
        have g0 : (((w3.setCell ⟨w.heap.size, 0, none⟩ (.string ⟨#[]⟩)).setCell ⟨w.heap.size, 1, none⟩ (.slice none 0 0)).alloc (.cells #[.string L, .slice (some ⟨g, 0, none⟩) N cap] 25)).cell? ⟨w.heap.size, 0, none⟩ = some (.string ⟨#[]⟩) := by
          rw [alloc_cellJ _ _ _ _ (by rw [Go.Deep.nblk_setCell, Go.Deep.nblk_setCell]; exact hlt3), World.cell?_setCell_other _ _ _ _ (by simp)]
          exact World.cell?_setCell_same _ _ _ q0
        have g1 : (((w3.setCell ⟨w.heap.size, 0, none⟩ (.string ⟨#[]⟩)).setCell ⟨w.heap.size, 1, none⟩ (.slice none 0 0)).alloc (.cells #[.string L, .slice (some ⟨g, 0, none⟩) N cap] 25)).cell? ⟨w.heap.size, 1, none⟩ = some (.slice none 0 0) := by
          rw [alloc_cellJ _ _ _ _ (by rw [Go.Deep.nblk_setCell, Go.Deep.nblk_setCell]; exact hlt3)]
          exact World.cell?_setCell_same _ _ _ ((World.cell?_setCell_other _ _ _ _ (by simp)).trans q1)
        refine bodyPost_ret (v := .tuple #[.agg #[.string ⟨#[]⟩, .slice none 0 0], .bool false]) (by simp [results, Try.results6, go_sem, g0, g1]) rfl ⟨(⟨#[]⟩, []), .slice none 0 0, by rw [HF.out], by rw [HF.out]; rfl, World.ownsRow_nil .., ?_⟩
        exact (((HBW3.out.setCell (by simp) _).setCell (by simp) _).alloc (by rw [Go.Deep.nblk_setCell, Go.Deep.nblk_setCell]; omega) _)
      · have hp : 1 ≤ t.size := by have := mt (toList_nil4 t).2 h0; omega
        have h0n : t.toList.isEmpty = false := by simpa using h0
        have hblk : Below w3.heap.size w3 (w3.alloc (.cells #[.string L, .slice (some ⟨g, 0, none⟩) N cap] 25)) := (Below.refl _ _).alloc (Nat.le_refl _) _
        have HBL : Hid _ := hblk
        have HPA : Hid (PatAt (w3.alloc (.cells #[.string L, .slice (some ⟨g, 0, none⟩) N cap] 25)) (.agg #[.string L, .slice (some ⟨g, 0, none⟩) N cap]) (L, rdN t.data.toList t.size)) := by
          refine ⟨_, rfl, HLS.out, ?_⟩
          have := HO3.out
          rw [← HNN.out] at this ⊢
          exact (intsAt_owns this).below (by rw [HNN.out]; exact hblk)
        have HOK : Hid (gpOk t = ((ppT (L, rdN t.data.toList t.size)).toList == t.toList)) := by show _ = _; unfold gpOk; rw [HGP.out, decide_eq_true hp]; simp
        clear hblk
        go_wp2_with fail
        refine (implPatternPut_any _ _ (L, rdN t.data.toList t.size) HPA.out).mono ?_
        rintro e w4 ⟨rfl, hb4⟩
        have HB4 : Hid (Below w3.heap.size w3 w4) := HBL.out.trans (hb4.mono (by simp))
        have p0 : w4.cell? ⟨w3.heap.size, 0, none⟩ = some (.string L) := (hb4.cell (p := ⟨w3.heap.size, 0, none⟩) (by simp)).trans (by simp [go_sem])
        have p1 : w4.cell? ⟨w3.heap.size, 1, none⟩ = some (.slice (some ⟨g, 0, none⟩) N cap) := (hb4.cell (p := ⟨w3.heap.size, 1, none⟩) (by simp)).trans (by simp [go_sem])
        have HG4 : Hid (w4.heap[w.heap.size]? = some (.cells #[.string ⟨#[]⟩, .slice none 0 0] 25 (0, 0))) := (HB4.out.block w.heap.size (by omega)).trans HG3.out
        have q0 : w4.cell? ⟨w.heap.size, 0, none⟩ = some (.string ⟨#[]⟩) := by rw [cell_of_row _ _ 0 _ _ _ HG4.out]; rfl
        have q1 : w4.cell? ⟨w.heap.size, 1, none⟩ = some (.slice none 0 0) := by rw [cell_of_row _ _ 1 _ _ _ HG4.out]; rfl
        have f0 := Go.Joins.unfrozen_of_block HG4.out 0
        have f1 := Go.Joins.unfrozen_of_block HG4.out 1
        have hsz4 := HB4.out.size
        have hz43 : w3.heap.size < w4.heap.size := by have := hb4.size; simp at this; omega
        have HBW4 : Hid (Below w.heap.size w w4) := HBW3.out.trans (HB4.out.mono (by omega))
        have HO4 : Hid (w4.ownsRow (w.heap.size + 1) 3 1 (.slice (some ⟨g, 0, none⟩) N cap) N (intV (rdN t.data.toList t.size))) := by
          have := HO3.out
          rw [← HNN.out] at this ⊢
          exact owns_belowI this HB4.out
        obtain ⟨P, hP⟩ : ∃ P, ppT (L, rdN t.data.toList t.size) = P := ⟨_, rfl⟩
        rw [hP] at HOK ⊢
        clear hb4 hP
        cases hPt : (P.toList == t.toList) with
        | false =>
          have HF : Hid (gpOk t = false) := by
            show _ = _
            rw [HOK.out, hPt]
          have g0 : ((w4.setCell ⟨w.heap.size, 0, none⟩ (.string ⟨#[]⟩)).setCell ⟨w.heap.size, 1, none⟩ (.slice none 0 0)).cell? ⟨w.heap.size, 0, none⟩ = some (.string ⟨#[]⟩) := by
            rw [World.cell?_setCell_other _ _ _ _ (by simp)]
            exact World.cell?_setCell_same _ _ _ q0
          have g1 : ((w4.setCell ⟨w.heap.size, 0, none⟩ (.string ⟨#[]⟩)).setCell ⟨w.heap.size, 1, none⟩ (.slice none 0 0)).cell? ⟨w.heap.size, 1, none⟩ = some (.slice none 0 0) :=
            World.cell?_setCell_same _ _ _ ((World.cell?_setCell_other _ _ _ _ (by simp)).trans q1)
          go_wp2_with fail
          refine bodyPost_ret (v := .tuple #[.agg #[.string ⟨#[]⟩, .slice none 0 0], .bool false]) (by simp [results, Try.results6, go_sem, g0, g1]) rfl ⟨(⟨#[]⟩, []), .slice none 0 0, by rw [HF.out], by rw [HF.out]; rfl, World.ownsRow_nil .., ?_⟩
          exact (HBW4.out.setCell (by simp) _).setCell (by simp) _
        | true =>
          have HF : Hid (gpOk t = true) := by
            show _ = _
            rw [HOK.out, hPt]
          have g0 : ((w4.setCell ⟨w.heap.size, 0, none⟩ (.string L)).setCell ⟨w.heap.size, 1, none⟩ (.slice (some ⟨g, 0, none⟩) N cap)).cell? ⟨w.heap.size, 0, none⟩ = some (.string L) := by
            rw [World.cell?_setCell_other _ _ _ _ (by simp)]
            exact World.cell?_setCell_same _ _ _ q0
          have g1 : ((w4.setCell ⟨w.heap.size, 0, none⟩ (.string L)).setCell ⟨w.heap.size, 1, none⟩ (.slice (some ⟨g, 0, none⟩) N cap)).cell? ⟨w.heap.size, 1, none⟩ = some (.slice (some ⟨g, 0, none⟩) N cap) :=
            World.cell?_setCell_same _ _ _ ((World.cell?_setCell_other _ _ _ _ (by simp)).trans q1)
          go_wp2_with fail
          refine bodyPost_ret (v := .tuple #[.agg #[.string L, .slice (some ⟨g, 0, none⟩) N cap], .bool true]) (by simp [results, Try.results6, go_sem, g0, g1]) rfl ⟨(L, rdN t.data.toList t.size), .slice (some ⟨g, 0, none⟩) N cap, by rw [HF.out], by rw [HF.out, HGP.out]; rfl, ?_, ?_⟩
          · show World.ownsRow _ _ _ _ _ (rdN t.data.toList t.size).length _
            rw [HNN.out]
            exact owns_lowJ (owns_setJ (owns_setJ HO4.out (by omega)) (by omega)) (by omega)
          · exact (HBW4.out.setCell (by simp) _).setCell (by simp) _
end Go.Proofs.Ytehpdlokacdifaa
/-
  spec.PatternGet.
-/
namespace Go.Proofs.Ytehpdlokacdifaa
open Go.RowKit
set_option linter.unusedVariables false
theorem gp_spec (t : ByteArray) : gpOk t = (patOk (gpM t) && ((putP (gpM t)).toList == t.toList)) := by
  unfold gpOk ppT
  cases h : patOk (gpM t) with
  | false =>
    simp
    intro h1 h2
    have := (toList_nil4 t).1 (by rw [← h2])
    simp [this] at h1
  | true =>
    have h1 := (patOk_parts (s := (gpM t).1) (ns := (gpM t).2) h).1
    have h2 : (gpM t).1.size ≤ t.size := by
      show (List.toArray _).size ≤ _
      rw [List.size_toArray]; exact rdL_len _ _
    simp
    intro _; omega
theorem blk_set {w : World} {b i : Nat} {cs : Array Value} {T : TypeId} {fz : Nat × Nat} {v : Value} (h : w.heap[b]? = some (.cells cs T fz)) : (w.setCell ⟨b, i, none⟩ v).heap[b]? = some (.cells (cs.setIfInBounds i v) T fz) := by
  simp [World.setCell, Array.getElem?_modify, h]
theorem row_ne {w : World} {lo P g n cap : Nat} {xs : List Value} {cs : Array Value} {fz : Nat × Nat} (h : w.ownsRow lo 3 1 (.slice (some ⟨g, 0, none⟩) n cap) n xs) (hp : w.heap[P]? = some (.cells cs 25 fz)) : lo ≤ g ∧ g ≠ P ∧ g < w.heap.size := by
  rcases h.2 with ⟨h, _⟩ | ⟨g', c', cur, h, hl, hh, _⟩
  · simp at h
  · simp only [Value.slice.injEq, Option.some.injEq, Addr.mk.injEq, and_true, true_and] at h
    obtain ⟨rfl, rfl⟩ := h
    refine ⟨hl, fun e => ?_, (Array.getElem?_eq_some_iff.1 hh).1⟩
    rw [e, hp] at hh
    simp at hh
theorem owns_setP {w : World} {lo b i n cap g : Nat} {u : Value} {xs : List Value} (h : w.ownsRow lo 3 1 (.slice (some ⟨g, 0, none⟩) n cap) n xs) (hb : g ≠ b) : (w.setCell ⟨b, i, none⟩ u).ownsRow lo 3 1 (.slice (some ⟨g, 0, none⟩) n cap) n xs := by
  refine ⟨h.1, ?_⟩
  rcases h.2 with h2 | ⟨g', cap', cur, hv, hg, hh, r⟩
  · exact .inl h2
  · have e := hv
    simp only [Value.slice.injEq, Option.some.injEq, Addr.mk.injEq, and_true, true_and] at e
    exact .inr ⟨g', cap', cur, hv, hg, (Below.heap_setCell _ _ _ _ (by show g' ≠ b; rw [← e.1]; exact hb)).trans hh, r⟩
theorem rdO_snoc (t : ByteArray) (k : Nat) (h : k < t.size) (hd : digB t[k] = false) : (⟨(rdL t.data.toList k).toArray⟩ : ByteArray) ++ t.extract k (k + 1) = ⟨(rdL t.data.toList (k + 1)).toArray⟩ := by
  rw [join_list, ext_one5 t k h, (rd_let (at_get t k h) hd).1]
/-- The state of the loop behind k letters. -/
def gsAt (t : ByteArray) (w W0 wr : World) (k : Nat) : Prop :=
  ∃ (g cap : Nat), wr.ownsRow (w.heap.size + 1) 3 1 (.slice (some ⟨g, 0, none⟩) (rdN t.data.toList k).length cap) (rdN t.data.toList k).length (intV (rdN t.data.toList k)) ∧
    wr.heap[w.heap.size + 1 + 1]? = some (.cells #[.string ⟨(rdL t.data.toList k).toArray⟩, .slice (some ⟨g, 0, none⟩) (rdN t.data.toList k).length cap] 25 (0, 0)) ∧ Below (w.heap.size + 1) W0 wr
theorem gsAt.drew {t : ByteArray} {w W0 wr : World} {k : Nat} (h : gsAt t w W0 wr k) : gsAt t w W0 wr.drew k := by
  obtain ⟨g, cap, ho, hp, hb⟩ := h
  exact ⟨g, cap, ho, hp, hb.drew⟩
set_option maxRecDepth 100000 in
set_option maxHeartbeats 4000000 in
theorem specPatternGet_any (t : ByteArray) (w : World) (ht : t.size ≤ 1048576) :
    Calls Try.prog 12 #[.string t] w fun e w' => gpPost t w e w' := by
  obtain ⟨i0, hi, hz0, hz1, hz2⟩ := info_parts Try.info_intJ
  obtain ⟨W0, hW0⟩ : ∃ W0, ((w.alloc (.cells #[.string ⟨#[]⟩, .slice none 0 0] 25)).alloc (.cells #[.int .i64 0] 3)).alloc (.cells #[.string ⟨#[]⟩, .slice (some ⟨w.heap.size + 1, 0, none⟩) 1 1] 25) = W0 := ⟨_, rfl⟩
  have HB0 : Hid (Below w.heap.size w W0) := by show Below _ _ _; rw [← hW0]; exact (((Below.refl _ _).alloc (Nat.le_refl _) _).alloc (by simp) _).alloc (by simp <;> omega) _
  have HSZ : Hid (W0.heap.size = w.heap.size + 3) := by show _ = _; rw [← hW0]; simp
  have HG0 : W0.heap[w.heap.size + 1 + 1]? = some (.cells #[.string ⟨#[]⟩, .slice (some ⟨w.heap.size + 1, 0, none⟩) 1 1] 25 (0, 0)) := by
    rw [← hW0]
    have := heap_alloc_last ((w.alloc (.cells #[.string ⟨#[]⟩, .slice none 0 0] 25)).alloc (.cells #[.int .i64 0] 3)) (.cells #[.string ⟨#[]⟩, .slice (some ⟨w.heap.size + 1, 0, none⟩) 1 1] 25)
    simpa using this
  have HG1 : W0.heap[w.heap.size + 1]? = some (.cells #[.int .i64 0] 3 (0, 0)) := by
    rw [← hW0, Below.heap_alloc _ _ _ (by simp)]
    have := heap_alloc_last (w.alloc (.cells #[.string ⟨#[]⟩, .slice none 0 0] 25)) (.cells #[.int .i64 0] 3)
    simpa using this
  have HG2 : Hid (W0.heap[w.heap.size]? = some (.cells #[.string ⟨#[]⟩, .slice none 0 0] 25 (0, 0))) := by
    show _ = _
    rw [← hW0, Below.heap_alloc _ _ _ (by simp <;> omega), Below.heap_alloc _ _ _ (by simp)]
    exact heap_alloc_last w _
  have S0 : Hid (gsAt t w W0 W0 0) := ⟨w.heap.size + 1, 1, ⟨rfl, .inr ⟨w.heap.size + 1, 1, #[.int .i64 0], rfl, Nat.le_refl _, HG1, Nat.le_refl _, by decide, rfl, rfl⟩⟩, HG0, Below.refl _ _⟩
  clear HG0 HG1
  go_enter Try.func12, Try.ntmps12
  go_wp2
  clear hW0
  go_loopw [5] (fun i wr => ∃ (k : Nat), k ≤ t.size ∧ i = .int .i64 k ∧ gsAt t w W0 wr k) (fun i _ => t.size - (intOf i).toNat)
  case atStart => exact ⟨0, Nat.zero_le _, rfl, S0.out⟩
  case round =>
    obtain ⟨k, hk, rfl, g, cap, ho, hp, hb⟩ := hrel
    have HO : Hid (wr.ownsRow (w.heap.size + 1) 3 1 (.slice (some ⟨g, 0, none⟩) (rdN t.data.toList k).length cap) (rdN t.data.toList k).length (intV (rdN t.data.toList k))) := ho
    have HP : Hid (wr.heap[w.heap.size + 1 + 1]? = some (.cells #[.string ⟨(rdL t.data.toList k).toArray⟩, .slice (some ⟨g, 0, none⟩) (rdN t.data.toList k).length cap] 25 (0, 0))) := hp
    have HB : Hid (Below (w.heap.size + 1) W0 wr) := hb
    have hn1 := rdN_len t.data.toList k
    have hn2 := rdL_len t.data.toList k
    obtain ⟨hg1, hg2, hg3⟩ := row_ne ho hp
    have d0 : wr.cell? ⟨w.heap.size + 1 + 1, 0, none⟩ = some (.string ⟨(rdL t.data.toList k).toArray⟩) := by rw [cell_of_row _ _ 0 _ _ _ hp]; rfl
    have d1 : wr.cell? ⟨w.heap.size + 1 + 1, 1, none⟩ = some (.slice (some ⟨g, 0, none⟩) (rdN t.data.toList k).length cap) := by rw [cell_of_row _ _ 1 _ _ _ hp]; rfl
    have f0 := Go.Joins.unfrozen_of_block hp 0
    have f1 := Go.Joins.unfrozen_of_block hp 1
    have hpz : w.heap.size + 1 + 1 < wr.heap.size := (Array.getElem?_eq_some_iff.1 hp).1
    clear ho hb hp
    by_cases hlt : k < t.size
    · have HK : Hid (t.data.toList[k]? = some t[k]) := at_get t k hlt
      have hk1 : (k : Int) < (t.size : Int) := by omega
      cases hd : digB t[k] with
      | true =>
        have hst := rd_dig HK.out hd
        have HS1 : Hid _ := hst.1
        have HS2 : Hid _ := hst.2
        have hdd : 48 ≤ (t[k].toNat : Int) ∧ (t[k].toNat : Int) ≤ 57 := by unfold digB at hd; simpa using hd
        obtain ⟨hd1, hd2⟩ := hdd
        obtain ⟨p, hp⟩ : ∃ p : Nat, (rdN t.data.toList k).length - 1 = p := ⟨_, rfl⟩
        have hw1 : IntKind.i64.wrap (((rdN t.data.toList k).length : Int) - 1) = (p : Int) := by rw [IntWalk.i64_in _ (by omega)]; omega
        have hpl : (p : Int) < ((rdN t.data.toList k).length : Int) := by omega
        have hw2 : IntKind.u8.wrap ((t[k].toNat : Int) - 48) = (t[k].toNat : Int) - 48 := by simp [IntKind.wrap, IntKind.bits, IntKind.signed]; omega
        obtain ⟨x0, hpg⟩ : ∃ x0, (rdN t.data.toList k)[p]? = some x0 := ⟨_, List.getElem?_eq_getElem (by omega)⟩
        have cp : wr.cell? ⟨g, p, none⟩ = some (.int .i64 x0) := (World.ownsRow.cellAt HO.out p (by omega)).trans (intV_at hpg)
        have fp := World.ownsRow.frozenAt HO.out p
        obtain ⟨hs1, hs2⟩ := World.ownsRow.stored HO.out p (.int .i64 ((t[k].toNat : Int) - 48))
        rw [intV_set] at hs1
        have HN1 : rdN t.data.toList (k + 1) = (rdN t.data.toList k).set p ((t[k].toNat : Int) - 48) := by rw [HS2.out, hp]
        have HNX : Hid (gsAt t w W0 (wr.setCell ⟨g, p, none⟩ (.int .i64 ((t[k].toNat : Int) - 48))) (k + 1)) := by
          refine ⟨g, cap, ?_, ?_, HB.out.setCell hg1 _⟩
          · rw [HN1, List.length_set]; exact hs1
          · rw [HN1, List.length_set, HS1.out, Below.heap_setCell _ _ _ _ (fun e => hg2 e.symm)]; exact HP.out
        clear hs1 hs2 hst hd hpg hn1 hn2 HN1 d0 f0
        go_wp2
        go_region
        go_wp2
        go_roundw
        case rel => exact ⟨k + 1, by omega, by go_num, HNX.out.drew⟩
        case measure => simp [intOf]; omega
      | false =>
        have hst := rd_let HK.out hd
        have HS2 : Hid _ := hst.2
        have HLEN : Hid ((rdN t.data.toList (k + 1)).length = (rdN t.data.toList k).length + 1) := by show _ = _; rw [hst.2]; simp
        have HXZ := rdO_snoc t k hlt hd
        obtain ⟨N, hN⟩ : ∃ N, (rdN t.data.toList k).length = N := ⟨_, rfl⟩
        have hnl : N ≤ 1048577 := by omega
        have hll : (⟨(rdL t.data.toList k).toArray⟩ : ByteArray).size ≤ 1048576 := by
          show (List.toArray _).size ≤ _
          rw [List.size_toArray]; omega
        obtain ⟨X, hX⟩ : ∃ X : ByteArray, (⟨(rdL t.data.toList k).toArray⟩ : ByteArray) = X := ⟨_, rfl⟩
        obtain ⟨Z, hZ⟩ : ∃ Z : ByteArray, (⟨(rdL t.data.toList (k + 1)).toArray⟩ : ByteArray) = Z := ⟨_, rfl⟩
        have HZ : Hid _ := hZ
        rw [hX, hZ] at HXZ
        rw [hX] at HP d0 hll
        rw [hN] at HO HP HLEN d1
        have hE : (t.extract k (k + 1)).size = 1 := by simp; omega
        have r2 : ∀ w : World, (Op.stringOp .add X (t.extract k (k + 1))).run Try.prog w = .ok (.string Z) w := fun w => by rw [run_string_add_sum w _ _ (by omega), HXZ]
        have HO1 : Hid ((wr.setCell ⟨w.heap.size + 1 + 1, 0, none⟩ (.string Z)).drew.ownsRow (w.heap.size + 1) 3 1 (.slice (some ⟨g, 0, none⟩) N cap) N (intV (rdN t.data.toList k))) := owns_setP HO.out hg2
        have HP1 : Hid ((wr.setCell ⟨w.heap.size + 1 + 1, 0, none⟩ (.string Z)).drew.heap[w.heap.size + 1 + 1]? = some (.cells #[.string Z, .slice (some ⟨g, 0, none⟩) N cap] 25 (0, 0))) := blk_set HP.out
        have HB1 : Hid (Below (w.heap.size + 1) W0 (wr.setCell ⟨w.heap.size + 1 + 1, 0, none⟩ (.string Z)).drew) := (HB.out.setCell (by simp) _).drew
        have hszw := HB.out.size
        clear hE HXZ hX hZ hN hst hn1 hn2 hg1 hg3 HO HP HB
        have hdd : (t[k].toNat : Int) < 48 ∨ (48 ≤ (t[k].toNat : Int) ∧ 57 < (t[k].toNat : Int)) := by
          unfold digB at hd
          rcases Int.lt_or_le (t[k].toNat : Int) 48 with h | h
          · exact .inl h
          · refine .inr ⟨h, ?_⟩
            simp only [decide_eq_true h, Bool.true_and, decide_eq_false_iff_not] at hd
            omega
        clear hd
        rcases hdd with h48 | ⟨h48, h57⟩
        all_goals
          go_wp2
          go_region
          obtain ⟨W1, hW1⟩ : ∃ W1, (wr.setCell ⟨w.heap.size + 1 + 1, 0, none⟩ (.string Z)).drew = W1 := ⟨_, rfl⟩
          rw [hW1] at HO1 HP1 HB1 ⊢
          clear hW1
          have e1 : W1.cell? ⟨w.heap.size + 1 + 1, 1, none⟩ = some (.slice (some ⟨g, 0, none⟩) N cap) := by rw [cell_of_row _ _ 1 _ _ _ HP1.out]; rfl
          have hz1' := HB1.out.size
          have hszz := HSZ.out
          go_wp2_with (at_builtin; refine wpList_append_own _ rfl _ _ 23 rfl (w.heap.size + 1) 3 i0 (.int .i64 0) 1 8 Try.underlying23 hi hz0 hz1 hz2 rfl (by decide) _ _ _ rfl (HO1.out.alloc _) ⟨W1.heap.size, 0, none⟩ 1 1 [.int .i64 0] rfl rfl ?c1 ?c2 ?c3 ?c4 ?c5 ?_)
          case c1 =>
            intro j u hj
            match j, hj with
            | 0, hj => simp at hj; subst hj; simp [Addr.add]
          case c2 => intro u hu; simp at hu; subst hu; rfl
          case c3 => unfold maxLen; omega
          case c4 => omega
          case c5 => simp; omega
          intro v' w4 hown' hgrow _
          obtain ⟨g4, cap4, rfl⟩ : ∃ g cap, v' = .slice (some ⟨g, 0, none⟩) (N + 1) cap := by
            rcases hown'.2 with ⟨_, h0⟩ | ⟨g, cap, cur, hv, _⟩
            · omega
            · exact ⟨g, cap, hv⟩
          obtain ⟨q1, q2, q3⟩ := row_ne HO1.out HP1.out
          have hp4 : w4.heap[w.heap.size + 1 + 1]? = some (.cells #[.string Z, .slice (some ⟨g, 0, none⟩) N cap] 25 (0, 0)) := by
            rw [hgrow.block _ (by simp; omega) (fun e => q2 (by have e9 := e; simp [Value.ownBlock] at e9; omega)), Below.heap_alloc W1 _ _ (by omega)]
            exact HP1.out
          have hb4 : Below (w.heap.size + 1) W0 w4 := (HB1.out.alloc (by omega) _).grown hgrow (by simp; omega) (fun q hq => (HO1.out.lt q hq).1)
          obtain ⟨y1, y2, y3⟩ := row_ne hown' hp4
          have e4 : w4.cell? ⟨w.heap.size + 1 + 1, 1, none⟩ = some (.slice (some ⟨g, 0, none⟩) N cap) := by rw [cell_of_row _ _ 1 _ _ _ hp4]; rfl
          have f4 := Go.Joins.unfrozen_of_block hp4 1
          have HNX : Hid (gsAt t w W0 (w4.setCell ⟨w.heap.size + 1 + 1, 1, none⟩ (.slice (some ⟨g4, 0, none⟩) (N + 1) cap4)) (k + 1)) := by
            refine ⟨g4, cap4, ?_, ?_, hb4.setCell (by simp) _⟩
            · rw [HLEN.out, HS2.out, intV_app]; exact owns_setP hown' y2
            · rw [HLEN.out, HZ.out]; exact blk_set hp4
          clear hown' hgrow hb4 e1 q1 q2 q3 y1 y2 y3 f1 d1
          go_wp2
          go_roundw
          case rel => exact ⟨k + 1, by omega, by go_num, HNX.out⟩
          case measure => simp [intOf]; omega
    · obtain rfl : k = t.size := by omega
      have hszz := HSZ.out
      have hszr := HB.out.size
      obtain ⟨N, hN⟩ : ∃ N, (rdN t.data.toList t.size).length = N := ⟨_, rfl⟩
      obtain ⟨L, hL⟩ : ∃ L : ByteArray, (⟨(rdL t.data.toList t.size).toArray⟩ : ByteArray) = L := ⟨_, rfl⟩
      have hLs : L.size ≤ 1048576 := by
        rw [← hL]
        show (List.toArray _).size ≤ _
        rw [List.size_toArray]; omega
      have HGP : Hid (gpM t = (L, rdN t.data.toList t.size)) := by show _ = _; unfold gpM; rw [hL]
      have HPA : Hid (PatAt wr (.agg #[.string L, .slice (some ⟨g, 0, none⟩) N cap]) (L, rdN t.data.toList t.size)) := ⟨_, rfl, by show L.size ≤ _; unfold maxLen; omega, by have := intsAt_owns HO.out; rwa [hN] at this⟩
      rw [hN] at HO HP d1
      rw [hL] at HP d0
      have HNN : Hid ((rdN t.data.toList t.size).length = N) := hN
      have HG : Hid (wr.heap[w.heap.size]? = some (.cells #[.string ⟨#[]⟩, .slice none 0 0] 25 (0, 0))) := (HB.out.block w.heap.size (by omega)).trans HG2.out
      have HBW : Hid (Below w.heap.size w wr) := HB0.out.trans (HB.out.mono (by omega))
      have HOK : Hid (gpOk t = (patOk (L, rdN t.data.toList t.size) && ((putP (L, rdN t.data.toList t.size)).toList == t.toList))) := by show _ = _; rw [gp_spec, HGP.out]
      have hlw : w.heap.size < wr.heap.size := by omega
      clear hN hL hn1 hn2 hk f0 f1
      go_wp2_with fail
      refine (specPatternOk_any _ _ (L, rdN t.data.toList t.size) HPA.out).mono ?_
      rintro e w3 ⟨rfl, hb3⟩
      have HB3 : Hid (Below wr.heap.size wr w3) := hb3
      have HBW3 : Hid (Below w.heap.size w w3) := HBW.out.trans (hb3.mono HBW.out.size)
      have HG3 : Hid (w3.heap[w.heap.size]? = some (.cells #[.string ⟨#[]⟩, .slice none 0 0] 25 (0, 0))) := (hb3.block w.heap.size hlw).trans HG.out
      have hz3 := hb3.size
      have q0 : w3.cell? ⟨w.heap.size, 0, none⟩ = some (.string ⟨#[]⟩) := by rw [cell_of_row _ _ 0 _ _ _ HG3.out]; rfl
      have q1 : w3.cell? ⟨w.heap.size, 1, none⟩ = some (.slice none 0 0) := by rw [cell_of_row _ _ 1 _ _ _ HG3.out]; rfl
      have f0 := Go.Joins.unfrozen_of_block HG3.out 0
      have f1 := Go.Joins.unfrozen_of_block HG3.out 1
      have p0 := (hb3.cell (p := ⟨w.heap.size + 1 + 1, 0, none⟩) hpz).trans d0
      have p1 := (hb3.cell (p := ⟨w.heap.size + 1 + 1, 1, none⟩) hpz).trans d1
      clear hb3
      cases hok : patOk (L, rdN t.data.toList t.size) with
      | false =>
        have HF : Hid (gpOk t = false) := by show _ = _; rw [HOK.out, hok]; rfl
        have g0 : ((w3.setCell ⟨w.heap.size, 0, none⟩ (.string ⟨#[]⟩)).setCell ⟨w.heap.size, 1, none⟩ (.slice none 0 0)).cell? ⟨w.heap.size, 0, none⟩ = some (.string ⟨#[]⟩) := by
          rw [World.cell?_setCell_other _ _ _ _ (by simp)]
          exact World.cell?_setCell_same _ _ _ q0
        have g1 : ((w3.setCell ⟨w.heap.size, 0, none⟩ (.string ⟨#[]⟩)).setCell ⟨w.heap.size, 1, none⟩ (.slice none 0 0)).cell? ⟨w.heap.size, 1, none⟩ = some (.slice none 0 0) :=
          World.cell?_setCell_same _ _ _ ((World.cell?_setCell_other _ _ _ _ (by simp)).trans q1)
        clear hok
        go_wp2_with fail
        refine bodyPost_ret (v := .tuple #[.agg #[.string ⟨#[]⟩, .slice none 0 0], .bool false]) (by simp [results, Try.results12, go_sem, g0, g1]) rfl ⟨(⟨#[]⟩, []), .slice none 0 0, by rw [HF.out], by rw [HF.out]; rfl, World.ownsRow_nil .., ?_⟩
        exact (HBW3.out.setCell (by simp) _).setCell (by simp) _
      | true =>
        have HPA3 : Hid (PatAt w3 (.agg #[.string L, .slice (some ⟨g, 0, none⟩) N cap]) (L, rdN t.data.toList t.size)) := HPA.out.below HB3.out
        have HOKT : Hid (patOk (L, rdN t.data.toList t.size) = true) := hok
        clear hok
        go_wp2_with fail
        refine (l9Put_any _ _ L (rdN t.data.toList t.size) HPA3.out HOKT.out).mono ?_
        rintro e w4 ⟨rfl, hb4⟩
        have HB4 : Hid (Below w3.heap.size w3 w4) := hb4
        have HG4 : Hid (w4.heap[w.heap.size]? = some (.cells #[.string ⟨#[]⟩, .slice none 0 0] 25 (0, 0))) := (hb4.block w.heap.size (by omega)).trans HG3.out
        have HBW4 : Hid (Below w.heap.size w w4) := HBW3.out.trans (hb4.mono HBW3.out.size)
        have hz4 := hb4.size
        have q0' : w4.cell? ⟨w.heap.size, 0, none⟩ = some (.string ⟨#[]⟩) := by rw [cell_of_row _ _ 0 _ _ _ HG4.out]; rfl
        have q1' : w4.cell? ⟨w.heap.size, 1, none⟩ = some (.slice none 0 0) := by rw [cell_of_row _ _ 1 _ _ _ HG4.out]; rfl
        have f0' := Go.Joins.unfrozen_of_block HG4.out 0
        have f1' := Go.Joins.unfrozen_of_block HG4.out 1
        have p0' := (hb4.cell (p := ⟨w.heap.size + 1 + 1, 0, none⟩) (by show w.heap.size + 1 + 1 < _; omega)).trans p0
        have p1' := (hb4.cell (p := ⟨w.heap.size + 1 + 1, 1, none⟩) (by show w.heap.size + 1 + 1 < _; omega)).trans p1
        have HO4 : Hid (w4.ownsRow (w.heap.size + 1) 3 1 (.slice (some ⟨g, 0, none⟩) N cap) N (intV (rdN t.data.toList t.size))) := by
          have := HO.out
          rw [← HNN.out] at this ⊢
          exact owns_belowI (owns_belowI this HB3.out) hb4
        obtain ⟨P, hP⟩ : ∃ P, putP (L, rdN t.data.toList t.size) = P := ⟨_, rfl⟩
        rw [hP] at HOK ⊢
        clear hb4 hP p0 p1 q0 q1 f0 f1 d0 d1
        cases hPt : (P.toList == t.toList) with
        | false =>
          have HF : Hid (gpOk t = false) := by show _ = _; rw [HOK.out, hPt]; simp
          have g0 : ((w4.setCell ⟨w.heap.size, 0, none⟩ (.string ⟨#[]⟩)).setCell ⟨w.heap.size, 1, none⟩ (.slice none 0 0)).cell? ⟨w.heap.size, 0, none⟩ = some (.string ⟨#[]⟩) := by
            rw [World.cell?_setCell_other _ _ _ _ (by simp)]
            exact World.cell?_setCell_same _ _ _ q0'
          have g1 : ((w4.setCell ⟨w.heap.size, 0, none⟩ (.string ⟨#[]⟩)).setCell ⟨w.heap.size, 1, none⟩ (.slice none 0 0)).cell? ⟨w.heap.size, 1, none⟩ = some (.slice none 0 0) :=
            World.cell?_setCell_same _ _ _ ((World.cell?_setCell_other _ _ _ _ (by simp)).trans q1')
          go_wp2_with fail
          refine bodyPost_ret (v := .tuple #[.agg #[.string ⟨#[]⟩, .slice none 0 0], .bool false]) (by simp [results, Try.results12, go_sem, g0, g1]) rfl ⟨(⟨#[]⟩, []), .slice none 0 0, by rw [HF.out], by rw [HF.out]; rfl, World.ownsRow_nil .., ?_⟩
          exact (HBW4.out.setCell (by simp) _).setCell (by simp) _
        | true =>
          have HF : Hid (gpOk t = true) := by show _ = _; rw [HOK.out, hPt, HOKT.out]; rfl
          have g0 : ((w4.setCell ⟨w.heap.size, 0, none⟩ (.string L)).setCell ⟨w.heap.size, 1, none⟩ (.slice (some ⟨g, 0, none⟩) N cap)).cell? ⟨w.heap.size, 0, none⟩ = some (.string L) := by
            rw [World.cell?_setCell_other _ _ _ _ (by simp)]
            exact World.cell?_setCell_same _ _ _ q0'
          have g1 : ((w4.setCell ⟨w.heap.size, 0, none⟩ (.string L)).setCell ⟨w.heap.size, 1, none⟩ (.slice (some ⟨g, 0, none⟩) N cap)).cell? ⟨w.heap.size, 1, none⟩ = some (.slice (some ⟨g, 0, none⟩) N cap) :=
            World.cell?_setCell_same _ _ _ ((World.cell?_setCell_other _ _ _ _ (by simp)).trans q1')
          go_wp2_with fail
          refine bodyPost_ret (v := .tuple #[.agg #[.string L, .slice (some ⟨g, 0, none⟩) N cap], .bool true]) (by simp [results, Try.results12, go_sem, g0, g1]) rfl ⟨(L, rdN t.data.toList t.size), .slice (some ⟨g, 0, none⟩) N cap, by rw [HF.out], by rw [HF.out, HGP.out]; rfl, ?_, ?_⟩
          · show World.ownsRow _ _ _ _ _ (rdN t.data.toList t.size).length _
            rw [HNN.out]
            exact owns_lowJ (owns_setJ (owns_setJ HO4.out (by omega)) (by omega)) (by omega)
          · exact (HBW4.out.setCell (by simp) _).setCell (by simp) _
end Go.Proofs.Ytehpdlokacdifaa
/-
  Marks in a row of numbers of one's own, and in a pattern's, and what holds them.
-/
namespace Go.Proofs.Ytehpdlokacdifaa
open Go.RowKit
set_option linter.unusedVariables false
theorem grownI_set (w : World) (g o : Nat) (u : Value) : w.grownBy (w.setCell ⟨g, o, none⟩ u) (some g) :=
  ⟨rfl, rfl, rfl, by rw [Go.Deep.nblk_setCell]; exact Nat.le_refl _, fun k _ hk => Below.heap_setCell _ _ _ k (fun e => hk (by rw [e]))⟩
theorem grownI_trans {a b c : World} {row : Option Nat} (h : a.grownBy b row) (k : b.grownBy c row) : a.grownBy c row :=
  ⟨k.os.trans h.os, k.tape.trans h.tape, k.output.trans h.output, Nat.le_trans h.size k.size, fun i hi hne => (k.block i (Nat.lt_of_lt_of_le hi h.size) hne).trans (h.block i hi hne)⟩
theorem grownI_refl (w : World) (row : Option Nat) : w.grownBy w row := ⟨rfl, rfl, rfl, Nat.le_refl _, fun _ _ _ => rfl⟩
/-- The numbers behind j marks from k on. -/
def mkTo (ns : List Int) (k : Nat) : Nat → List Int
  | 0 => ns
  | j + 1 => (mkTo ns k j).set j ((k + j : Nat) : Int)
theorem mkTo_len (ns : List Int) (k : Nat) : ∀ j, (mkTo ns k j).length = ns.length
  | 0 => rfl
  | j + 1 => by rw [mkTo, List.length_set]; exact mkTo_len ns k j
theorem mkTo_at (ns : List Int) (k : Nat) : ∀ j i, i < j → i < ns.length → (mkTo ns k j)[i]? = some ((k + i : Nat) : Int)
  | 0, i, h, _ => absurd h (by omega)
  | j + 1, i, h, hi => by
    rw [mkTo, List.getElem?_set]
    by_cases e : j = i
    · subst e
      rw [if_pos rfl, if_pos (by rw [mkTo_len]; exact hi)]
    · rw [if_neg e]
      exact mkTo_at ns k j i (by omega) hi
end Go.Proofs.Ytehpdlokacdifaa
/-
  The law FnExactPatternGet.
-/
namespace Go.Proofs.Ytehpdlokacdifaa
open Go.RowKit
set_option linter.unusedVariables false
def gpX (t : ByteArray) : PatM := if gpOk t then gpM t else (⟨#[]⟩, [])
theorem gpX_size (t : ByteArray) : (gpX t).1.size ≤ t.size ∧ (gpX t).2.length ≤ t.size + 1 := by
  unfold gpX
  split
  · refine ⟨?_, ?_⟩
    · show (List.toArray _).size ≤ _
      rw [List.size_toArray]; exact rdL_len _ _
    · show (rdN _ _).length ≤ _
      rw [rdN_len]
      have := rdL_len t.data.toList t.size
      omega
  · exact ⟨Nat.zero_le _, Nat.zero_le _⟩
/-- What a call of PatternGet leaves, in letters. -/
def gpL (s : ByteArray) (ns : List Int) (b : Bool) (w : World) (e : Ending) (w' : World) : Prop :=
  ∃ (a : Option Addr) (c : Nat), e = .returned (.tuple #[.agg #[.string s, .slice a ns.length c], .bool b]) ∧ w'.ownsRow w.heap.size 3 1 (.slice a ns.length c) ns.length (intV ns) ∧ Below w.heap.size w w'
theorem gpPost.parts {t : ByteArray} {w w' : World} {e : Ending} (h : gpPost t w e w') : gpL (gpX t).1 (gpX t).2 (gpOk t) w e w' := by
  obtain ⟨x, vn, rfl, hx, ho, hb⟩ := h
  have hx' : x = gpX t := hx
  subst hx'
  rcases ho.2 with ⟨rfl, h0⟩ | ⟨g, cap, cur, rfl, _⟩
  · exact ⟨none, 0, by rw [h0], by rw [h0] at ho ⊢; exact ho, hb⟩
  · exact ⟨some ⟨g, 0, none⟩, cap, rfl, ho, hb⟩
/-- A pattern's own block, and its row. -/
def gpAt (w : World) (b lo : Nat) (s : ByteArray) (a : Option Addr) (c : Nat) (ns xs : List Int) : Prop :=
  w.heap[b]? = some (.cells #[.string s, .slice a ns.length c] 25 (0, 0)) ∧ w.ownsRow lo 3 1 (.slice a ns.length c) ns.length (intV xs)
theorem gpAt.below {w w' : World} {b lo m : Nat} {s : ByteArray} {a : Option Addr} {c : Nat} {ns xs : List Int} (h : gpAt w b lo s a c ns xs) (hb : Below m w w') (h1 : b < m) (h2 : ∀ q, (Value.slice a ns.length c).ownBlock = some q → q < m) : gpAt w' b lo s a c ns xs := by
  refine ⟨(hb.block b h1).trans h.1, h.2.1, ?_⟩
  rcases h.2.2 with h3 | ⟨g, cap, cur, hv, hg, hh, r⟩
  · exact .inl h3
  · exact .inr ⟨g, cap, cur, hv, hg, (hb.block g (h2 g (by rw [hv]; rfl))).trans hh, r⟩
theorem gpAt.kept {w w' : World} {b lo : Nat} {s : ByteArray} {a : Option Addr} {c : Nat} {ns xs : List Int} (h : gpAt w b lo s a c ns xs) (hb : Below w.heap.size w w') : gpAt w' b lo s a c ns xs :=
  h.below hb (Array.getElem?_eq_some_iff.1 h.1).1 (fun q hq => (h.2.lt q hq).2)
theorem gpAt.cells {w : World} {b lo : Nat} {s : ByteArray} {a : Option Addr} {c : Nat} {ns xs : List Int} (h : gpAt w b lo s a c ns xs) : w.cell? ⟨b, 0, none⟩ = some (.string s) ∧ w.cell? ⟨b, 1, none⟩ = some (.slice a ns.length c) :=
  ⟨by rw [cell_of_row _ _ 0 _ _ _ h.1]; rfl, by rw [cell_of_row _ _ 1 _ _ _ h.1]; rfl⟩
theorem gpAt.pat {w : World} {b lo : Nat} {s : ByteArray} {a : Option Addr} {c : Nat} {ns : List Int} (h : gpAt w b lo s a c ns ns) (hs : s.size ≤ maxLen) : PatAt w (.agg #[.string s, .slice a ns.length c]) (s, ns) :=
  ⟨_, rfl, hs, intsAt_owns h.2⟩
/-- A pattern laid down behind a call. -/
theorem gpAt.laid {w : World} {lo : Nat} {s : ByteArray} {a : Option Addr} {c : Nat} {ns : List Int} (h : w.ownsRow lo 3 1 (.slice a ns.length c) ns.length (intV ns)) : gpAt (w.alloc (.cells #[.string s, .slice a ns.length c] 25)) w.heap.size lo s a c ns ns :=
  ⟨heap_alloc_last w _, h.alloc _⟩
end Go.Proofs.Ytehpdlokacdifaa
/-
  Plain mathematics: what is written of a pattern is read back; mdPattern.
-/
namespace Go.Proofs.Ytehpdlokacdifaa
open Go.RowKit
set_option linter.unusedVariables false
def rdS (s : List UInt8 × List Int) (c : UInt8) : List UInt8 × List Int :=
  if digB c then (s.1, s.2.set (s.2.length - 1) ((c.toNat : Int) - 48)) else (s.1 ++ [c], s.2 ++ [0])
def rdF (l : List UInt8) : List UInt8 × List Int := l.foldl rdS ([], [0])
theorem rd_fold (l : List UInt8) : ∀ k, k ≤ l.length → (rdL l k, rdN l k) = rdF (l.take k)
  | 0, _ => rfl
  | k + 1, h => by
    have ih := rd_fold l k (by omega)
    have hc : l[k]? = some l[k] := List.getElem?_eq_getElem (by omega)
    rw [List.take_add_one, hc]
    show _ = rdF (l.take k ++ [l[k]])
    unfold rdF at ih ⊢
    rw [List.foldl_append, ← ih]
    show _ = rdS (rdL l k, rdN l k) l[k]
    unfold rdS
    cases hd : digB l[k] with
    | true => rw [if_pos rfl, (rd_dig hc hd).1, (rd_dig hc hd).2]
    | false => rw [if_neg (by simp), (rd_let hc hd).1, (rd_let hc hd).2]
theorem rd_all (t : ByteArray) : (rdL t.data.toList t.size, rdN t.data.toList t.size) = rdF t.data.toList := by
  have := rd_fold t.data.toList t.size (Nat.le_refl _)
  rwa [show t.data.toList.take t.size = t.data.toList from List.take_of_length_le (Nat.le_refl _)] at this
theorem set_last (a : List Int) (x : Int) : (a ++ [0]).set ((a ++ [0]).length - 1) x = a ++ [x] := by
  rw [List.length_append, show a.length + [(0 : Int)].length - 1 = a.length from rfl, List.set_append_right _ _ (Nat.le_refl _)]; simp
theorem dig_fig (x : Int) (h0 : 0 ≤ x) (h9 : x ≤ 9) : digB (UInt8.ofNat (48 + x.toNat)) = true := by
  have := fig_nat x h0 h9
  unfold digB
  rw [this]; simp; omega
theorem rdF_num (L : List UInt8) (a : List Int) (x : Int) (h0 : 0 ≤ x) (h9 : x ≤ 9) : (if x = 0 then [] else [UInt8.ofNat (48 + x.toNat)]).foldl rdS (L, a ++ [0]) = (L, a ++ [x]) := by
  by_cases h : x = 0
  · rw [if_pos h, h]; rfl
  · rw [if_neg h]
    show rdS (L, a ++ [0]) _ = _
    unfold rdS
    rw [dig_fig x h0 h9, if_pos rfl, fig_nat x h0 h9]
    show (L, (a ++ [0]).set ((a ++ [0]).length - 1) (48 + x - 48)) = _
    rw [set_last, show (48 + x - 48 : Int) = x by omega]
theorem rdF_put {l : List UInt8} {ns : List Int} (hl : ns.length = l.length + 1) (hf : ∀ (k : Nat) (x : Int), ns[k]? = some x → 0 ≤ x ∧ x ≤ 9) (hd : ∀ (k : Nat) (c : UInt8), l[k]? = some c → digB c = false) :
    ∀ k, k ≤ l.length → rdF (putTo l ns k) = (l.take k, ns.take k ++ [0])
  | 0, _ => rfl
  | k + 1, h => by
    have ih := rdF_put hl hf hd k (by omega)
    have hx : ns[k]? = some ns[k] := List.getElem?_eq_getElem (by omega)
    have hc : l[k]? = some l[k] := List.getElem?_eq_getElem (by omega)
    unfold rdF at ih ⊢
    rw [putTo, piece_at hx, List.foldl_append, List.foldl_append, ih, rdF_num _ _ _ (hf k _ hx).1 (hf k _ hx).2, List.drop_eq_getElem_cons (by omega)]
    show rdS (l.take k, ns.take k ++ [ns[k]]) l[k] = _
    unfold rdS
    rw [hd k _ hc, if_neg (by simp), List.take_add_one, List.take_add_one, hc, hx]
    rfl
theorem rdF_all {l : List UInt8} {ns : List Int} (hl : ns.length = l.length + 1) (hf : ∀ (k : Nat) (x : Int), ns[k]? = some x → 0 ≤ x ∧ x ≤ 9) (hd : ∀ (k : Nat) (c : UInt8), l[k]? = some c → digB c = false) :
    rdF (putTo l ns ns.length) = (l, ns) := by
  have ih := rdF_put hl hf hd l.length (Nat.le_refl _)
  have hx : ns[l.length]? = some ns[l.length] := List.getElem?_eq_getElem (by omega)
  rw [hl]
  unfold rdF at ih ⊢
  rw [putTo, piece_at hx, List.foldl_append, List.foldl_append, ih, rdF_num _ _ _ (hf _ _ hx).1 (hf _ _ hx).2, List.drop_of_length_le (Nat.le_refl _)]
  show (l.take l.length, ns.take l.length ++ [ns[l.length]]) = _
  rw [List.take_of_length_le (Nat.le_refl _)]
  have e : ns.take l.length ++ [ns[l.length]] = ns := by
    have h2 : ns.take (l.length + 1) = ns := List.take_of_length_le (by omega)
    rw [List.take_add_one, hx] at h2
    exact h2
  rw [e]
theorem lok_dig {s : ByteArray} {ns : List Int} (h : patOk (s, ns) = true) : ∀ (k : Nat) (c : UInt8), s.data.toList[k]? = some c → digB c = false := by
  unfold patOk at h
  simp only [Bool.and_eq_true, decide_eq_true_eq] at h
  have hL := (midL_ok s).1 h.2.2.1
  intro k c hc
  unfold digB
  rcases hL k c hc with ⟨rfl, _⟩ | h2
  · rfl
  · unfold isLoP at h2
    rw [decide_eq_false (p := (c.toNat : Int) ≤ 57) (by omega)]; simp
/-- What is written of a pattern that is ok is read back. -/
theorem gp_back (x : PatM) (h : patOk x = true) : gpM (ppT x) = x ∧ gpOk (ppT x) = true := by
  obtain ⟨s, ns⟩ := x
  obtain ⟨h1, h8, hl, hf⟩ := patOk_parts h
  have e1 : ppT (s, ns) = putP (s, ns) := by unfold ppT; rw [if_pos h]
  have e2 : (putP (s, ns)).data.toList = putTo s.data.toList ns ns.length := rfl
  have e3 := rd_all (putP (s, ns))
  rw [e2, rdF_all (by simpa using hl) hf (lok_dig h)] at e3
  have e4 : gpM (putP (s, ns)) = (s, ns) := by
    unfold gpM
    rw [e2, (Prod.mk.inj e3).1, (Prod.mk.inj e3).2]
  have hp : 1 ≤ (putP (s, ns)).size := by
    have e5 := rdL_len (putP (s, ns)).data.toList (putP (s, ns)).size
    rw [e2, (Prod.mk.inj e3).1] at e5
    have e6 : s.data.toList.length = s.size := rfl
    omega
  rw [e1]
  refine ⟨e4, ?_⟩
  unfold gpOk
  rw [e4, e1, decide_eq_true hp]; simp
theorem gp_none (x : PatM) (h : patOk x = false) : ppT x = ⟨#[]⟩ ∧ gpOk (ppT x) = false := by
  have e : ppT x = ⟨#[]⟩ := by unfold ppT; rw [h]; rfl
  refine ⟨e, ?_⟩
  rw [e]; rfl
/-- What was read is ok, and is written just so. -/
theorem gp_put (t : ByteArray) (h : gpOk t = true) : patOk (gpM t) = true ∧ ppT (gpM t) = t := by
  have h1 := gp_spec t
  rw [h] at h1
  have h2 := (Bool.and_eq_true _ _).mp h1.symm
  refine ⟨h2.1, ?_⟩
  have h3 : ppT (gpM t) = putP (gpM t) := by unfold ppT; rw [if_pos h2.1]
  have h4 := h2.2
  simp only [beq_iff_eq] at h4
  rw [h3]
  rw [ByteArray.toList_eq, ByteArray.toList_eq] at h4
  exact ByteArray.ext (Array.toList_inj.1 h4)
set_option maxHeartbeats 1000000 in
theorem mdPattern_any (w : World) (v u : Value) (x : PatM) (h : PatAt w v x) (h' : PatAt w u x) :
    Calls Try.prog 10 #[v, u] w fun e w' => e = .returned (.bool true) ∧ Below w.heap.size w w' := by
  obtain ⟨vn, rfl, hs, hn⟩ := h
  obtain ⟨un, rfl, hs', hn'⟩ := h'
  obtain ⟨s, ns⟩ := x
  simp only at hs hn hs' hn'
  obtain ⟨a, cap, rfl, hc, hm⟩ := hn.form
  obtain ⟨a', cap', rfl, hc', hm'⟩ := hn'.form
  obtain ⟨W, hW⟩ : ∃ W, ((w.alloc (.cells #[.string s, .slice a ns.length cap] 25)).alloc (.cells #[.string s, .slice a' ns.length cap'] 25)) = W := ⟨_, rfl⟩
  have hb2 : Below w.heap.size w W := by rw [← hW]; exact ((Below.refl _ _).alloc (Nat.le_refl _) _).alloc (by simp) _
  have HB : Hid (Below w.heap.size w W) := hb2
  have HN : Hid (IntsAt W (.slice a ns.length cap) ns) := hn.below hb2
  have HN' : Hid (IntsAt W (.slice a' ns.length cap') ns) := hn'.below hb2
  have c0 : W.cell? ⟨w.heap.size, 0, none⟩ = some (.string s) := by rw [← hW]; simp [go_sem]
  have c1 : W.cell? ⟨w.heap.size, 1, none⟩ = some (.slice a ns.length cap) := by rw [← hW]; simp [go_sem]
  have d0 : W.cell? ⟨w.heap.size + 1, 0, none⟩ = some (.string s) := by rw [← hW]; simp [go_sem]
  have d1 : W.cell? ⟨w.heap.size + 1, 1, none⟩ = some (.slice a' ns.length cap') := by rw [← hW]; simp [go_sem]
  unfold maxLen at hm
  clear hn hn' hb2
  go_enter Try.func10, Try.ntmps10
  go_wp2_with fail
  clear hW
  go_loopw [5] (fun i wr => ∃ (k m : Nat), k ≤ ns.length ∧ i = .int .i64 k ∧ wr = W.drewN m) (fun i _ => ns.length - (intOf i).toNat)
  case atStart => exact ⟨0, 0, Nat.zero_le _, rfl, rfl⟩
  case round =>
    obtain ⟨k, m, hk, rfl, rfl⟩ := hrel
    by_cases hlt : k < ns.length
    · obtain ⟨b, off, cap1, x, hv, hbl, hx, e0⟩ := HN.out.at hlt
      obtain ⟨b', off', cap1', x', hv', hbl', hx', e0'⟩ := HN'.out.at hlt
      cases hv
      cases hv'
      rw [hx] at hx'
      cases hx'
      clear hx
      go_wp2
      go_region
      go_wp2
      go_roundw
      case rel => exact ⟨k + 1, m + 1, by omega, by go_num, rfl⟩
      case measure => simp [intOf]; omega
    · obtain rfl : k = ns.length := by omega
      go_wp2
      go_ret
      exact ⟨rfl, ⟨HB.out.os, HB.out.tape, HB.out.output, HB.out.size, HB.out.block⟩⟩
end Go.Proofs.Ytehpdlokacdifaa
/-
  Drawn patterns.
-/
namespace Go.Proofs.Ytehpdlokacdifaa
open Go.RowKit
set_option linter.unusedVariables false
theorem Kept.setN {blk : Nat} {w x : World} (h : Kept blk w x) {b : Nat} (hb : w.heap.size ≤ b) (i : Nat) (v : Value) : Kept blk w (x.setCell ⟨b, i, none⟩ v) :=
  ⟨h.os, h.tape, h.output, by simpa using h.size, fun k hk hn => (Below.heap_setCell x _ v k (by show k ≠ b; omega)).trans (h.block k hk hn)⟩
theorem RdAt.setN {w : World} {blk p : Nat} (h : RdAt w blk p) {b : Nat} (hb : blk < b) (i : Nat) (v : Value) : RdAt (w.setCell ⟨b, i, none⟩ v) blk p := by
  obtain ⟨a, len, cap, h1, h2, h3⟩ := h
  refine ⟨a, len, cap, (Below.heap_setCell w _ v blk (by show blk ≠ b; omega)).trans h1, h2, ?_⟩
  rcases h3 with h3 | ⟨b', off, ha, hb', hc⟩
  · exact .inl h3
  · refine .inr ⟨b', off, ha, hb', fun i hi => ?_⟩
    obtain ⟨z, hz, hz1⟩ := hc i hi
    exact ⟨z, (World.cell?_of_block (w := w) (Below.heap_setCell w _ _ _ (by show b' ≠ b; omega))).trans hz, hz1⟩
def gpB (t : ByteArray) : Bool := patOk (gpM t) && ((putP (gpM t)).data.toList == t.data.toList)
theorem gpB_ok (t : ByteArray) : gpB t = gpOk t := by rw [gp_spec, ByteArray.toList_eq, ByteArray.toList_eq]; rfl
def okV : Value → Bool
  | .string s => gpB s && decide (s.size ≤ 6)
  | _ => false
theorem lit_ok (w : World) (cs : Array Value) (t : TypeId) (h : cs.all okV = true) : ∀ i, i < cs.size → ∃ s : ByteArray, (w.alloc (.cells cs t)).cell? ⟨w.heap.size, i, none⟩ = some (.string s) ∧ gpOk s = true ∧ s.size ≤ 6 := by
  intro i hi
  rw [cell_of_row _ _ i cs t (0, 0) (heap_alloc_last w _), Array.getElem?_eq_getElem hi]
  have := (Array.all_eq_true.1 h) i hi
  revert this
  generalize cs[i] = v
  intro hv
  unfold okV at hv
  split at hv
  · next s =>
    rw [Bool.and_eq_true, decide_eq_true_eq] at hv
    exact ⟨s, rfl, by rw [← gpB_ok]; exact hv.1, hv.2⟩
  · cases hv
theorem lit_okG (w : World) (cs : Array Value) (t : TypeId) (g : Nat) (hg : g = w.heap.size) (h : cs.all okV = true) : ∀ i, i < cs.size → ∃ s : ByteArray, (w.alloc (.cells cs t)).cell? ⟨g, i, none⟩ = some (.string s) ∧ gpOk s = true ∧ s.size ≤ 6 := by
  subst hg; exact lit_ok w cs t h
theorem lit_textsG (m : Nat) (w : World) (cs : Array Value) (t : TypeId) (g : Nat) (hg : g = w.heap.size) (h : cs.all (shortV m) = true) : ∀ i, i < cs.size → ∃ s : ByteArray, (w.alloc (.cells cs t)).cell? ⟨g, i, none⟩ = some (.string s) ∧ s.size ≤ m := by
  subst hg; exact lit_texts m w cs t h
theorem owns_keptI {blk lo n : Nat} {w w' : World} {v : Value} {xs : List Value} (h : w.ownsRow lo 3 1 v n xs) (hk : Kept blk w w') (hb : blk < lo) : w'.ownsRow lo 3 1 v n xs := by
  refine ⟨h.1, ?_⟩
  rcases h.2 with h2 | ⟨g, cap, cur, hv, hg, hh, r⟩
  · exact .inl h2
  · exact .inr ⟨g, cap, cur, hv, hg, (hk.block g (Array.getElem?_eq_some_iff.1 hh).1 (by omega)).trans hh, r⟩
/-- What a drawn pattern is like. -/
def drP (s : ByteArray) (ns : List Int) (w : World) (blk p m : Nat) (e : Ending) (w' : World) : Prop :=
  ∃ (a : Option Addr) (c : Nat), e = .returned (.agg #[.string s, .slice a ns.length c]) ∧ w'.ownsRow w.heap.size 3 1 (.slice a ns.length c) ns.length (intV ns) ∧ (∃ q, RdAt w' blk q ∧ q ≤ p + m) ∧ Kept blk w w'
set_option maxHeartbeats 1000000 in
theorem l13Pattern_any (w : World) (blk p : Nat) (h : RdAt w blk p) (hp : p ≤ 900000) :
    Calls Try.prog 24 #[.pointer (some ⟨blk, 0, none⟩)] w fun e w' => ∃ (s : ByteArray) (ns : List Int), patOk (s, ns) = true ∧ drP s ns w blk p 1 e w' := by
  have hlt := h.lt
  have HR : Hid (RdAt w blk p) := h
  clear h
  go_enter Try.func24, Try.ntmps24
  go_wp2_with fail
  refine (of_any (fun s => gpOk s = true ∧ s.size ≤ 6) _ blk p _ 11 11 (by exact (HR.out.alloc _).alloc _) (by omega) (by omega) (by omega) (by intro i hi; refine lit_okG _ _ _ _ (by simp) ?_ i hi; decide +kernel) (by first | omega | (simp; omega))).mono ?_
  rintro e w1 ⟨t, rfl, ⟨ht1, ht2⟩, hr1, hk1⟩
  have HR1 : Hid (RdAt w1 blk (p + 1)) := hr1
  have HK1 : Hid (Kept blk w w1) := (((Kept.refl blk w).alloc _).alloc _).trans hk1
  have HG1 : Hid (w1.heap[w.heap.size]? = some (.cells #[.string ⟨#[]⟩, .slice none 0 0] 25 (0, 0))) := (hk1.block w.heap.size (by simp <;> omega) (by omega)).trans ((Below.heap_alloc _ _ _ (by simp)).trans (heap_alloc_last w _))
  have hz1 : w.heap.size < w1.heap.size := (Array.getElem?_eq_some_iff.1 HG1.out).1
  have HT : Hid (gpOk t = true) := ht1
  clear hr1 hk1 ht1
  go_wp2_with fail
  refine (specPatternGet_any t _ (by omega)).mono ?_
  rintro e w2 hq
  have hq2 := hq.parts
  have hX : gpX t = gpM t := by unfold gpX; rw [if_pos HT.out]
  have HPO : Hid (patOk (gpM t) = true) := (gp_put t HT.out).1
  rw [hX] at hq2
  obtain ⟨s, ns, hM⟩ : ∃ s ns, gpM t = (s, ns) := ⟨_, _, rfl⟩
  rw [hM] at hq2 HPO
  obtain ⟨a, c, rfl, ho, hb⟩ := hq2
  simp only at ho
  have HO : Hid (w2.ownsRow w1.heap.size 3 1 (.slice a ns.length c) ns.length (intV ns)) := ho
  have HG2 : Hid (w2.heap[w.heap.size]? = some (.cells #[.string ⟨#[]⟩, .slice none 0 0] 25 (0, 0))) := (hb.block w.heap.size hz1).trans HG1.out
  have HR2 : Hid (RdAt w2 blk (p + 1)) := HR1.out.keep hb
  have HK2 : Hid (Kept blk w w2) := HK1.out.trans (Kept.of_below hb)
  have hz2 := hb.size
  have q0 : (w2.alloc (.cells #[.string s, .slice a ns.length c] 25)).cell? ⟨w.heap.size, 0, none⟩ = some (.string ⟨#[]⟩) := by rw [alloc_cellJ _ _ _ _ (by omega), cell_of_row _ _ 0 _ _ _ HG2.out]; rfl
  have q1 : (w2.alloc (.cells #[.string s, .slice a ns.length c] 25)).cell? ⟨w.heap.size, 1, none⟩ = some (.slice none 0 0) := by rw [alloc_cellJ _ _ _ _ (by omega), cell_of_row _ _ 1 _ _ _ HG2.out]; rfl
  have HGA : Hid ((w2.alloc (.cells #[.string s, .slice a ns.length c] 25)).heap[w.heap.size]? = some (.cells #[.string ⟨#[]⟩, .slice none 0 0] 25 (0, 0))) := (Below.heap_alloc _ _ _ (by omega)).trans HG2.out
  have f0 := Go.Joins.unfrozen_of_block HGA.out 0
  have f1 := Go.Joins.unfrozen_of_block HGA.out 1
  have g0 : (((w2.alloc (.cells #[.string s, .slice a ns.length c] 25)).setCell ⟨w.heap.size, 0, none⟩ (.string s)).setCell ⟨w.heap.size, 1, none⟩ (.slice a ns.length c)).cell? ⟨w.heap.size, 0, none⟩ = some (.string s) := by
    rw [World.cell?_setCell_other _ _ _ _ (by simp)]
    exact World.cell?_setCell_same _ _ _ q0
  have g1 : (((w2.alloc (.cells #[.string s, .slice a ns.length c] 25)).setCell ⟨w.heap.size, 0, none⟩ (.string s)).setCell ⟨w.heap.size, 1, none⟩ (.slice a ns.length c)).cell? ⟨w.heap.size, 1, none⟩ = some (.slice a ns.length c) :=
    World.cell?_setCell_same _ _ _ ((World.cell?_setCell_other _ _ _ _ (by simp)).trans q1)
  clear ho hb hq hM hX
  go_wp2_with fail
  refine bodyPost_ret (v := .agg #[.string s, .slice a ns.length c]) (by simp [results, Try.results24, go_sem, g0, g1]) rfl ⟨s, ns, HPO.out, a, c, rfl, ?_, ⟨p + 1, ((HR2.out.alloc _).setN hlt _ _).setN hlt _ _, Nat.le_refl _⟩, ((HK2.out.alloc _).setN (Nat.le_refl _) _ _).setN (Nat.le_refl _) _ _⟩
  exact owns_lowJ (owns_setJ (owns_setJ (HO.out.alloc _) (by omega)) (by omega)) (by omega)
end Go.Proofs.Ytehpdlokacdifaa
/-
  Any drawn pattern; drawn texts.
-/
namespace Go.Proofs.Ytehpdlokacdifaa
open Go.RowKit
set_option linter.unusedVariables false
theorem lit_intsG (w : World) (ns : List Int) (t : TypeId) (g : Nat) (hg : g = w.heap.size) : ∀ i, i < ns.length → ∃ x : Int, (w.alloc (.cells (intV ns).toArray t)).cell? ⟨g, i, none⟩ = some (.int .i64 x) := by
  subst hg
  intro i hi
  refine ⟨ns[i], ?_⟩
  rw [cell_of_row _ _ i _ t (0, 0) (heap_alloc_last w _)]
  have := intV_at (List.getElem?_eq_getElem hi)
  simpa using this
/-- A pattern under way: the result's block, its own block, its row. -/
def dpAt (w wr : World) (blk q B : Nat) (s : ByteArray) (g c N : Nat) (ns : List Int) : Prop :=
  wr.heap[w.heap.size]? = some (.cells #[.string ⟨#[]⟩, .slice none 0 0] 25 (0, 0)) ∧ wr.heap[B]? = some (.cells #[.string s, .slice (some ⟨g, 0, none⟩) N c] 25 (0, 0)) ∧
    wr.ownsRow (w.heap.size + 1) 3 1 (.slice (some ⟨g, 0, none⟩) N c) N (intV ns) ∧ RdAt wr blk q ∧ Kept blk w wr ∧ ns.length = N
theorem dpAt.kept {w wr wr' : World} {blk q q' B g c N : Nat} {s : ByteArray} {ns : List Int} (h : dpAt w wr blk q B s g c N ns) (hk : Kept blk wr wr') (hr : RdAt wr' blk q') (h1 : blk < w.heap.size) (h2 : w.heap.size < B) : dpAt w wr' blk q' B s g c N ns := by
  obtain ⟨a1, a2, a3, a4, a5, a6⟩ := h
  exact ⟨(hk.block _ (Array.getElem?_eq_some_iff.1 a1).1 (by omega)).trans a1, (hk.block _ (Array.getElem?_eq_some_iff.1 a2).1 (by omega)).trans a2, owns_keptI a3 hk (by omega), hr, a5.trans hk, a6⟩
theorem dpAt.alloc {w wr : World} {blk q B g c N : Nat} {s : ByteArray} {ns : List Int} (h : dpAt w wr blk q B s g c N ns) (o : Obj) (h1 : blk < w.heap.size) (h2 : w.heap.size < B) : dpAt w (wr.alloc o) blk q B s g c N ns :=
  h.kept ((Kept.refl _ _).alloc o) (h.2.2.2.1.alloc o) h1 h2
theorem dpAt.drewN {w wr : World} {blk q B g c N : Nat} {s : ByteArray} {ns : List Int} (h : dpAt w wr blk q B s g c N ns) (n : Nat) (h1 : blk < w.heap.size) (h2 : w.heap.size < B) : dpAt w (wr.drewN n) blk q B s g c N ns :=
  h.kept ((Kept.refl _ _).drewN n) (h.2.2.2.1.drewN n) h1 h2
theorem dpAt.set0 {w wr : World} {blk q B g c N : Nat} {s : ByteArray} {ns : List Int} (h : dpAt w wr blk q B s g c N ns) (t : ByteArray) (h1 : blk < w.heap.size) (h2 : w.heap.size < B) : dpAt w (wr.setCell ⟨B, 0, none⟩ (.string t)) blk q B t g c N ns := by
  obtain ⟨a1, a2, a3, a4, a5, a6⟩ := h
  exact ⟨(Below.heap_setCell _ _ _ _ (by show w.heap.size ≠ B; omega)).trans a1, blk_set a2, owns_setP a3 (row_ne a3 a2).2.1, a4.setN (by omega) _ _, a5.setN (by omega) _ _, a6⟩
theorem dpAt.set1 {w wr : World} {blk q B g c N g' c' N' : Nat} {s : ByteArray} {ns ns' : List Int} (h : dpAt w wr blk q B s g c N ns) (h3 : wr.ownsRow (w.heap.size + 1) 3 1 (.slice (some ⟨g', 0, none⟩) N' c') N' (intV ns')) (h4 : ns'.length = N') (h1 : blk < w.heap.size) (h2 : w.heap.size < B) : dpAt w (wr.setCell ⟨B, 1, none⟩ (.slice (some ⟨g', 0, none⟩) N' c')) blk q B s g' c' N' ns' := by
  obtain ⟨a1, a2, a3, a4, a5, a6⟩ := h
  exact ⟨(Below.heap_setCell _ _ _ _ (by show w.heap.size ≠ B; omega)).trans a1, blk_set a2, owns_setP h3 (row_ne h3 a2).2.1, a4.setN (by omega) _ _, a5.setN (by omega) _ _, h4⟩
theorem dpAt.put {w wr : World} {blk q B g c N : Nat} {s : ByteArray} {ns : List Int} (h : dpAt w wr blk q B s g c N ns) (j : Nat) (x : Int) (h1 : blk < w.heap.size) (h2 : w.heap.size < B) : dpAt w (wr.setCell ⟨g, j, none⟩ (.int .i64 x)) blk q B s g c N (ns.set j x) := by
  obtain ⟨a1, a2, a3, a4, a5, a6⟩ := h
  obtain ⟨b1, b2, b3⟩ := row_ne a3 a2
  have hs := (World.ownsRow.stored a3 j (.int .i64 x)).1
  rw [intV_set] at hs
  exact ⟨(Below.heap_setCell _ _ _ _ (by show w.heap.size ≠ g; omega)).trans a1, (Below.heap_setCell _ _ _ _ (by show B ≠ g; omega)).trans a2, hs, a4.setN (by omega) _ _, a5.setN (by omega) _ _, by rw [List.length_set]; exact a6⟩
/-- What the end of the draw makes of it. -/
theorem dpAt.done {w wr : World} {blk p q B g c N : Nat} {s : ByteArray} {ns : List Int} (h : dpAt w wr blk q B s g c N ns) (h1 : blk < w.heap.size) (hq : q ≤ p + 3) :
    drP s ns w blk p 3 (.returned (.agg #[.string s, .slice (some ⟨g, 0, none⟩) N c])) ((wr.setCell ⟨w.heap.size, 0, none⟩ (.string s)).setCell ⟨w.heap.size, 1, none⟩ (.slice (some ⟨g, 0, none⟩) N c)) := by
  obtain ⟨a1, a2, a3, a4, a5, a6⟩ := h
  obtain ⟨b1, b2, b3⟩ := row_ne a3 a2
  refine ⟨some ⟨g, 0, none⟩, c, by rw [a6], ?_, ⟨q, (a4.setN h1 _ _).setN h1 _ _, hq⟩, (a5.setN (Nat.le_refl _) _ _).setN (Nat.le_refl _) _ _⟩
  rw [a6]
  exact owns_lowJ (owns_setP (owns_setP a3 (by omega)) (by omega)) (by omega)
theorem dpAt.cells {w wr : World} {blk q B g c N : Nat} {s : ByteArray} {ns : List Int} (h : dpAt w wr blk q B s g c N ns) :
    wr.cell? ⟨B, 0, none⟩ = some (.string s) ∧ wr.cell? ⟨B, 1, none⟩ = some (.slice (some ⟨g, 0, none⟩) N c) ∧ wr.frozen? ⟨B, 0, none⟩ = false ∧ wr.frozen? ⟨B, 1, none⟩ = false :=
  ⟨by rw [cell_of_row _ _ 0 _ _ _ h.2.1]; rfl, by rw [cell_of_row _ _ 1 _ _ _ h.2.1]; rfl, Go.Joins.unfrozen_of_block h.2.1 0, Go.Joins.unfrozen_of_block h.2.1 1⟩
theorem dpAt.ends {w wr : World} {blk q B g c N : Nat} {s : ByteArray} {ns : List Int} (h : dpAt w wr blk q B s g c N ns) :
    (wr.cell? ⟨w.heap.size, 0, none⟩ = some (.string ⟨#[]⟩) ∧ wr.cell? ⟨w.heap.size, 1, none⟩ = some (.slice none 0 0) ∧ wr.frozen? ⟨w.heap.size, 0, none⟩ = false ∧ wr.frozen? ⟨w.heap.size, 1, none⟩ = false) ∧
    ((wr.setCell ⟨w.heap.size, 0, none⟩ (.string s)).setCell ⟨w.heap.size, 1, none⟩ (.slice (some ⟨g, 0, none⟩) N c)).cell? ⟨w.heap.size, 0, none⟩ = some (.string s) ∧
    ((wr.setCell ⟨w.heap.size, 0, none⟩ (.string s)).setCell ⟨w.heap.size, 1, none⟩ (.slice (some ⟨g, 0, none⟩) N c)).cell? ⟨w.heap.size, 1, none⟩ = some (.slice (some ⟨g, 0, none⟩) N c) := by
  have q0 : wr.cell? ⟨w.heap.size, 0, none⟩ = some (.string ⟨#[]⟩) := by rw [cell_of_row _ _ 0 _ _ _ h.1]; rfl
  have q1 : wr.cell? ⟨w.heap.size, 1, none⟩ = some (.slice none 0 0) := by rw [cell_of_row _ _ 1 _ _ _ h.1]; rfl
  refine ⟨⟨q0, q1, Go.Joins.unfrozen_of_block h.1 0, Go.Joins.unfrozen_of_block h.1 1⟩, ?_, ?_⟩
  · rw [World.cell?_setCell_other _ _ _ _ (by simp)]
    exact World.cell?_setCell_same _ _ _ q0
  · exact World.cell?_setCell_same _ _ _ ((World.cell?_setCell_other _ _ _ _ (by simp)).trans q1)
theorem dpAt.first {w wr : World} {blk q B g c N : Nat} {s : ByteArray} {ns : List Int} (h : dpAt w wr blk q B s g c N ns) (h1 : 1 ≤ N) :
    ∃ x : Int, wr.cell? ⟨g, 0, none⟩ = some (.int .i64 x) ∧ wr.frozen? ⟨g, 0, none⟩ = false := by
  obtain ⟨a1, a2, a3, a4, a5, a6⟩ := h
  obtain ⟨x0, hx⟩ : ∃ x0, ns[0]? = some x0 := ⟨_, List.getElem?_eq_getElem (by omega)⟩
  exact ⟨x0, (World.ownsRow.cellAt a3 0 (by omega)).trans (intV_at hx), World.ownsRow.frozenAt a3 0⟩
set_option maxHeartbeats 1000000 in
theorem one_any (w : World) (blk p g n cap : Nat) (h : RdAt w blk p) (hp : p ≤ 1000000) (hn : 1 ≤ n) (hn' : n ≤ 1000)
    (hc : ∀ i, i < n → ∃ x : Int, w.cell? ⟨g, i, none⟩ = some (.int .i64 x)) (hg : g ≠ blk) :
    Calls Try.prog 26 #[.pointer (some ⟨blk, 0, none⟩), .slice (some ⟨g, 0, none⟩) n cap] w fun e w' => ∃ x : Int, e = .returned (.int .i64 x) ∧ RdAt w' blk (p + 1) ∧ Kept blk w w' := by
  have HC : Hid (∀ i, i < n → ∃ x : Int, w.cell? ⟨g, i, none⟩ = some (.int .i64 x)) := hc
  clear hc
  go_enter Try.func26, Try.ntmps26
  go_wp2_with fail
  refine (pick_any w blk p n h hp (by omega)).mono ?_
  rintro e w1 ⟨v, rfl, hv0, hv1, hr1, hk1⟩
  obtain ⟨i, rfl⟩ := Int.eq_ofNat_of_zero_le hv0
  have hi : i < n := by have := hv1 (by omega); omega
  obtain ⟨x, hx⟩ := HC.out i hi
  have hs1 : w1.cell? ⟨g, i, none⟩ = some (.int .i64 x) := by
    rw [hk1.cell (p := ⟨g, i, none⟩) ?_ hg]
    · exact hx
    · show g < w.heap.size
      rcases Nat.lt_or_ge g w.heap.size with hlt | hge
      · exact hlt
      · unfold World.cell? at hx
        rw [Array.getElem?_eq_none hge] at hx
        simp at hx
  have HR : Hid (RdAt w1 blk (p + 1)) := hr1
  clear hv1 hr1 hx
  go_wp2
  go_ret
  exact ⟨x, rfl, HR.out, hk1⟩
set_option maxRecDepth 100000 in
set_option maxHeartbeats 4000000 in
theorem l13AnyPattern_any (w : World) (blk p : Nat) (h : RdAt w blk p) (hp : p ≤ 800000) :
    Calls Try.prog 13 #[.pointer (some ⟨blk, 0, none⟩)] w fun e w' => ∃ (s : ByteArray) (ns : List Int), s.size ≤ 9 ∧ ns.length ≤ 10 ∧ drP s ns w blk p 3 e w' := by
  have hlt := h.lt
  have HR : Hid (RdAt w blk p) := h
  clear h
  obtain ⟨i0, hi, hz0, hz1, hz2⟩ := info_parts Try.info_intJ
  go_enter Try.func13, Try.ntmps13
  go_wp2_with fail
  refine (l13Pattern_any _ blk p (HR.out.alloc _) (by omega)).mono ?_
  rintro e w2 ⟨s, ns, hok, a, c, rfl, ho, ⟨q, hr, hq⟩, hk⟩
  obtain ⟨hp1, hp8, hpl, hpf⟩ := patOk_parts hok
  obtain ⟨N, hN⟩ : ∃ N, ns.length = N := ⟨_, rfl⟩
  rw [hN] at ho hpl ⊢
  obtain ⟨g, rfl⟩ : ∃ g, a = some ⟨g, 0, none⟩ := by
    rcases ho.2 with ⟨_, h0⟩ | ⟨g, cap, cur, hv, _⟩
    · omega
    · cases hv; exact ⟨g, rfl⟩
  have HNN : Hid (ns.length = N) := hN
  obtain ⟨W3, hW3⟩ : ∃ W3, w2.alloc (.cells #[.string s, .slice (some ⟨g, 0, none⟩) N c] 25) = W3 := ⟨_, rfl⟩
  have ho2 : w2.ownsRow (w.heap.size + 1) 3 1 (.slice (some ⟨g, 0, none⟩) N c) N (intV ns) := by simpa using ho
  have HO3 : Hid (W3.ownsRow (w.heap.size + 1) 3 1 (.slice (some ⟨g, 0, none⟩) N c) N (intV ns)) := by show World.ownsRow _ _ _ _ _ _ _; rw [← hW3]; exact ho2.alloc _
  have hg1 : w2.heap[w.heap.size]? = some (.cells #[.string ⟨#[]⟩, .slice none 0 0] 25 (0, 0)) := (hk.block w.heap.size (by simp) (by omega)).trans (heap_alloc_last w _)
  have hz1' : w.heap.size < w2.heap.size := (Array.getElem?_eq_some_iff.1 hg1).1
  have HG3 : Hid (W3.heap[w.heap.size]? = some (.cells #[.string ⟨#[]⟩, .slice none 0 0] 25 (0, 0))) := by show _ = _; rw [← hW3]; exact (Below.heap_alloc _ _ _ hz1').trans hg1
  have HP3 : Hid (W3.heap[w2.heap.size]? = some (.cells #[.string s, .slice (some ⟨g, 0, none⟩) N c] 25 (0, 0))) := by show _ = _; rw [← hW3]; exact heap_alloc_last _ _
  have HR3 : Hid (RdAt W3 blk q) := by rw [← hW3]; exact hr.alloc _
  have HK3 : Hid (Kept blk w W3) := by rw [← hW3]; exact (((Kept.refl blk w).alloc _).trans hk).alloc _
  have hz3 : w2.heap.size < W3.heap.size := by rw [← hW3]; simp
  have d1 : W3.cell? ⟨w2.heap.size, 1, none⟩ = some (.slice (some ⟨g, 0, none⟩) N c) := by rw [cell_of_row _ _ 1 _ _ _ HP3.out]; rfl
  have hn1 : 1 ≤ N := by omega
  have hn9 : N ≤ 9 := by omega
  have HEM : Hid ((W3.alloc (.cells #[] 3)).ownsRow (w.heap.size + 1) 3 1 (.slice (some ⟨W3.heap.size, 0, none⟩) 0 0) 0 []) := ⟨rfl, .inr ⟨W3.heap.size, 0, #[], rfl, by omega, heap_alloc_last _ _, Nat.le_refl _, by decide, rfl, rfl⟩⟩
  clear ho ho2 hr hk hg1 hok hpf hN hpl
  go_wp2_with (at_builtin; refine wpList_append_own _ rfl _ _ 23 rfl (w.heap.size + 1) 3 i0 (.int .i64 0) 1 8 Try.underlying23 hi hz0 hz1 hz2 rfl (by decide) _ _ _ rfl HEM.out ⟨g, 0, none⟩ N c (intV ns) rfl ?c0 ?c1 ?c2 ?c3 ?c4 ?c5 ?_)
  case c0 => rw [intV_length, HNN.out]; simp
  case c1 =>
    intro j u hj
    have hj2 : j < N := by have := (List.getElem?_eq_some_iff.1 hj).1; rwa [intV_length, HNN.out] at this
    have := World.ownsRow.cellAt (HO3.out.alloc (.cells #[] 3)) j (by omega)
    rw [hj] at this
    rw [add_plainI, Nat.zero_add]
    exact this
  case c2 => intro u hu; obtain ⟨x, _, rfl⟩ := List.mem_map.1 hu; rfl
  case c3 => unfold maxLen; omega
  case c4 => omega
  case c5 => simp; omega
  intro v' w4 hown' hgrow _
  have hown : w4.ownsRow (w.heap.size + 1) 3 1 v' N (intV ns) := by simpa using hown'
  obtain ⟨g4, cap4, rfl⟩ : ∃ g cap, v' = .slice (some ⟨g, 0, none⟩) N cap := by
    rcases hown.2 with ⟨_, h0⟩ | ⟨g, cap, cur, hv, _⟩
    · omega
    · exact ⟨g, cap, hv⟩
  have hb4 : Below W3.heap.size W3 w4 := ((Below.refl _ _).alloc (Nat.le_refl _) _).grown hgrow (by simp) (fun q hq => by simp [Value.ownBlock] at hq; omega)
  have HD4 : Hid (dpAt w (w4.setCell ⟨w2.heap.size, 1, none⟩ (.slice (some ⟨g4, 0, none⟩) N cap4)) blk q w2.heap.size s g4 cap4 N ns) := by
    have h0 : dpAt w w4 blk q w2.heap.size s g c N ns := ⟨(hb4.block _ (by omega)).trans HG3.out, (hb4.block _ hz3).trans HP3.out, by have := owns_keptI (blk := blk) HO3.out (Kept.of_below hb4) (by omega); exact this, HR3.out.keep hb4, HK3.out.trans (Kept.of_below hb4), HNN.out⟩
    exact h0.set1 hown HNN.out hlt hz1'
  have e4 : w4.cell? ⟨w2.heap.size, 1, none⟩ = some (.slice (some ⟨g, 0, none⟩) N c) := by rw [cell_of_row _ _ 1 _ _ _ ((hb4.block _ hz3).trans HP3.out)]; rfl
  have f4 := Go.Joins.unfrozen_of_block ((hb4.block _ hz3).trans HP3.out) 1
  clear hown hown' hgrow hb4 HEM d1 HO3 HP3 HG3 HR3 HK3
  go_wp2_with fail
  obtain ⟨W5, hW5⟩ : ∃ W5, w4.setCell ⟨w2.heap.size, 1, none⟩ (.slice (some ⟨g4, 0, none⟩) N cap4) = W5 := ⟨_, rfl⟩
  rw [hW5] at HD4 ⊢
  clear hW5 e4 f4
  refine (pick_any W5 blk q 10 HD4.out.2.2.2.1 (by omega) (by omega)).mono ?_
  rintro e w6 ⟨v, rfl, hv0, hv1, hr6, hk6⟩
  have HD6 : Hid (dpAt w w6 blk (q + 1) w2.heap.size s g4 cap4 N ns) := HD4.out.kept hk6 hr6 hlt hz1'
  have hz6 : W5.heap.size ≤ w6.heap.size := hk6.size
  clear hv0 hv1 hr6 hk6
  cases hva : (v == 0) with
  | true =>
    go_wp2_with fail
    refine (of_any (fun s => s.size ≤ 9) _ blk (q + 1) _ 5 5 (by exact HD6.out.2.2.2.1.alloc _) (by omega) (by omega) (by omega) (by intro i hi; refine lit_textsG 9 _ _ _ _ (by simp) ?_ i hi; decide +kernel) (by have := HD6.out.2.2.2.1.lt; omega)).mono ?_
    rintro e w7 ⟨t, rfl, ht, hr7, hk7⟩
    have HD7 : Hid (dpAt w w7 blk (q + 2) w2.heap.size s g4 cap4 N ns) := (HD6.out.alloc _ hlt hz1').kept hk7 hr7 hlt hz1'
    have HD8 : Hid (dpAt w (w7.setCell ⟨w2.heap.size, 0, none⟩ (.string t)) blk (q + 2) w2.heap.size t g4 cap4 N ns) := HD7.out.set0 t hlt hz1'
    obtain ⟨x0, x1, y0, y1⟩ := HD7.out.cells
    clear hr7 hk7
    obtain ⟨⟨q0, q1, k0, k1⟩, g0, g1⟩ := HD8.out.ends
    obtain ⟨p0, p1, m0, m1⟩ := HD8.out.cells
    go_wp2_with fail
    refine bodyPost_ret (v := .agg #[.string t, .slice (some ⟨g4, 0, none⟩) N cap4]) (by simp [results, Try.results13, go_sem, g0, g1]) rfl ⟨t, ns, ht, by rw [HNN.out]; omega, HD8.out.done hlt (by omega)⟩
  | false =>
    cases hvb : (v == 1) with
    | true =>
      obtain ⟨x0, x1, y0, y1⟩ := HD6.out.cells
      have HL : Hid (∀ W : World, ∀ i, i < 3 → ∃ x : Int, (W.alloc (.cells #[.int .i64 (-1), .int .i64 10, .int .i64 9] 3)).cell? ⟨W.heap.size, i, none⟩ = some (.int .i64 x)) := fun W i hi => lit_intsG W [-1, 10, 9] 3 _ rfl i hi
      go_wp2_with fail
      have hN0 : 0 < N := by omega
      have x1o : ∀ o : Obj, (w6.alloc o).cell? ⟨w2.heap.size, 1, none⟩ = some (.slice (some ⟨g4, 0, none⟩) N cap4) := fun o => (HD6.out.alloc o hlt hz1').cells.2.1
      go_region_law (go_simp; go_at_call 26; refine (one_any _ blk (q + 1) _ 3 3 (by exact (HD6.out.2.2.2.1.drewN 1).alloc _) (by omega) (by omega) (by omega) (by intro i hi; exact HL.out w6.drew i hi) (by have := HD6.out.2.2.2.1.lt; omega)).mono ?_; rintro e w7 ⟨x, rfl, hr7, hk7⟩; have HD7 : Hid (dpAt w w7 blk (q + 2) w2.heap.size s g4 cap4 N ns) := (((HD6.out.drewN 1 hlt hz1').alloc _ hlt hz1').kept hk7 hr7 hlt hz1'); have HD8 : Hid (dpAt w (w7.setCell ⟨g4, 0, none⟩ (.int .i64 x)) blk (q + 2) w2.heap.size s g4 cap4 N (ns.set 0 x)) := HD7.out.put 0 x hlt hz1'; obtain ⟨z0, z1, u0, u1⟩ := HD7.out.cells; obtain ⟨v0, cp, fp⟩ := HD7.out.first (by omega); obtain ⟨⟨q0, q1, k0, k1⟩, g0, g1⟩ := HD8.out.ends; obtain ⟨p0, p1, m0, m1⟩ := HD8.out.cells; clear hr7 hk7)
      all_goals
        go_wp2_with fail
        refine bodyPost_ret (v := .agg #[.string s, .slice (some ⟨g4, 0, none⟩) N cap4]) (by simp [results, Try.results13, go_sem, g0, g1]) rfl ⟨s, ns.set 0 x, by omega, by rw [List.length_set, HNN.out]; omega, HD8.out.done hlt (by omega)⟩
    | false =>
      cases hvc : (v == 2) with
      | true =>
        obtain ⟨x0, x1, y0, y1⟩ := HD6.out.cells
        go_wp2_with (at_builtin; refine wpList_append_own _ rfl _ _ 23 rfl (w.heap.size + 1) 3 i0 (.int .i64 0) 1 8 Try.underlying23 hi hz0 hz1 hz2 rfl (by decide) _ _ _ rfl (HD6.out.2.2.1.alloc _) ⟨w6.heap.size, 0, none⟩ 1 1 [.int .i64 1] rfl rfl ?c1 ?c2 ?c3 ?c4 ?c5 ?_)
        case c1 =>
          intro j u hj
          match j, hj with
          | 0, hj => simp at hj; subst hj; simp [Addr.add]
        case c2 => intro u hu; simp at hu; subst hu; rfl
        case c3 => unfold maxLen; omega
        case c4 => omega
        case c5 => have := (Array.getElem?_eq_some_iff.1 HD6.out.1).1; simp; omega
        intro v' w7 hown' hgrow _
        obtain ⟨g7, cap7, rfl⟩ : ∃ g cap, v' = .slice (some ⟨g, 0, none⟩) (N + 1) cap := by
          rcases hown'.2 with ⟨_, h0⟩ | ⟨g, cap, cur, hv, _⟩
          · omega
          · exact ⟨g, cap, hv⟩
        have HD7 : Hid (w7.heap[w2.heap.size]? = some (.cells #[.string s, .slice (some ⟨g4, 0, none⟩) N cap4] 25 (0, 0)) ∧ dpAt w (w7.setCell ⟨w2.heap.size, 1, none⟩ (.slice (some ⟨g7, 0, none⟩) (N + 1) cap7)) blk (q + 1) w2.heap.size s g7 cap7 (N + 1) (ns ++ [1])) := by
          obtain ⟨a1, a2, a3, a4, a5, a6⟩ := HD6.out
          obtain ⟨b1, b2, b3⟩ := row_ne a3 a2
          have c0 := (Array.getElem?_eq_some_iff.1 a1).1
          have c1 := (Array.getElem?_eq_some_iff.1 a2).1
          have kk : ∀ k, k < w6.heap.size → k ≠ g4 → w7.heap[k]? = w6.heap[k]? := fun k hk hn => by
            rw [hgrow.block k (by simp; omega) (fun e => hn (by have e9 := e; simp [Value.ownBlock] at e9; omega)), Below.heap_alloc w6 _ _ hk]
          have r1 := (kk _ c0 (by omega)).trans a1
          have r2 := (kk _ c1 (fun e => b2 e.symm)).trans a2
          have hb7 : Below (w.heap.size + 1) w6 w7 := ((Below.refl _ _).alloc (by omega) _).grown hgrow (by simp; omega) (fun q hq => by have e9 := hq; simp [Value.ownBlock] at e9; omega)
          have h3 : w7.ownsRow (w.heap.size + 1) 3 1 (.slice (some ⟨g7, 0, none⟩) (N + 1) cap7) (N + 1) (intV (ns ++ [1])) := by rw [intV_app]; exact hown'
          obtain ⟨d1, d2, d3⟩ := row_ne h3 r2
          have hrd : RdAt w7 blk (q + 1) := by
            obtain ⟨a, len, cap, e1, e2, e3⟩ := a4
            refine ⟨a, len, cap, (hb7.block _ (by omega)).trans e1, e2, ?_⟩
            rcases e3 with e3 | ⟨b, off, ha, hb', hc⟩
            · exact .inl e3
            · exact .inr ⟨b, off, ha, hb', fun i hi => by obtain ⟨z, hz, hz1⟩ := hc i hi; exact ⟨z, (hb7.cell (p := ⟨b, off + i, none⟩) (by show b < _; omega)).trans hz, hz1⟩⟩
          have hkp : Kept blk w w7 := ⟨hb7.os.trans a5.os, hb7.tape.trans a5.tape, hb7.output.trans a5.output, Nat.le_trans a5.size (Nat.le_trans (by simp) hgrow.size), fun k hk hn => (hb7.block k (by omega)).trans (a5.block k hk hn)⟩
          refine ⟨r2, (Below.heap_setCell _ _ _ _ (by show w.heap.size ≠ w2.heap.size; omega)).trans r1, blk_set r2, owns_setP h3 d2, hrd.setN (by omega) _ _, hkp.setN (by omega) _ _, by rw [List.length_append, a6]; rfl⟩
        have e7 : w7.cell? ⟨w2.heap.size, 1, none⟩ = some (.slice (some ⟨g4, 0, none⟩) N cap4) := by rw [cell_of_row _ _ 1 _ _ _ HD7.out.1]; rfl
        have f7 := Go.Joins.unfrozen_of_block HD7.out.1 1
        obtain ⟨⟨q0, q1, k0, k1⟩, g0, g1⟩ := HD7.out.2.ends
        obtain ⟨p0, p1, m0, m1⟩ := HD7.out.2.cells
        clear hown' hgrow
        go_wp2_with fail
        refine bodyPost_ret (v := .agg #[.string s, .slice (some ⟨g7, 0, none⟩) (N + 1) cap7]) (by simp [results, Try.results13, go_sem, g0, g1]) rfl ⟨s, ns ++ [1], by omega, by rw [List.length_append, HNN.out]; simp; omega, HD7.out.2.done hlt (by omega)⟩
      | false =>
        obtain ⟨⟨q0, q1, k0, k1⟩, g0, g1⟩ := HD6.out.ends
        obtain ⟨p0, p1, m0, m1⟩ := HD6.out.cells
        go_wp2_with fail
        refine bodyPost_ret (v := .agg #[.string s, .slice (some ⟨g4, 0, none⟩) N cap4]) (by simp [results, Try.results13, go_sem, g0, g1]) rfl ⟨s, ns, by omega, by rw [HNN.out]; omega, HD6.out.done hlt (by omega)⟩
end Go.Proofs.Ytehpdlokacdifaa
/-
  The law FnPattern.
-/
namespace Go.Proofs.Ytehpdlokacdifaa
open Go.RowKit
set_option linter.unusedVariables false
/-- An operation is taken first; the slot that it writes is told. -/
theorem wpAnyH_takeD5 {P : Program} {md : Region.Mode} {ops : Array Oper} {Q : Exit → Act → World → Prop} {S : World → Prop} {i d : Nat} {oi : Oper} {v : Value} {fuel : Nat} {listed : Array Bool} {a : Act} {w : World} (hi : ops[i]? = some oi)
    (hs : Region.noSelect ops = true) (hf : Region.free md ops listed i = true) (hr : (Region.ready md ops listed).contains i = true)
    (hQ : ∀ c a w, Q (.panic c) (a.put oi.dst v) w → Q (.panic c) a w) (hy : YieldsIf P ops S oi v a) (hS : S w) (hd : oi.dst = some d)
    (h : wpAnyH P md ops Q S fuel (listed.setIfInBounds i true) (a.put (some d) v) w) : wpAnyH P md ops Q S (fuel + 1) listed a w :=
  wpAnyH_take hi hs hf hr hQ hy hS (by rw [hd]; exact h)
theorem isRow_kept {k : IntKind} {w w' : World} {a : Option Addr} {len cap : Nat} {zs : List Int} (h : IsRow k w a len cap zs) (hb : Below w.heap.size w w') : IsRow k w' a len cap zs := by
  rcases h with h | ⟨x, h1, h2, h3, h4, h5, h6⟩
  · exact .inl h
  · exact .inr ⟨x, h1, h2, h3, h4, fun i hi => (hb.cell (cell_ltI (h5 i hi)).1).trans (h5 i hi), h6⟩
theorem ppT_size (x : PatM) : (ppT x).size ≤ 2 * x.2.length := by
  unfold ppT
  split
  · exact putO_size _ _ _
  · exact Nat.zero_le _
set_option maxHeartbeats 1000000 in
theorem drawPatternPut_any (w : World) (a : Option Addr) (len cap : Nat) (zs : List Int) (h : IsRow .u8 w a len cap zs) :
    Calls Try.prog 4 #[.slice a len cap] w fun e w' => ∃ (s : ByteArray) (ns : List Int) (b : Option Addr) (c : Nat), e = .returned (.agg #[.string s, .slice b ns.length c]) ∧ s.size ≤ 9 ∧ ns.length ≤ 10 ∧ PatAt w' (.agg #[.string s, .slice b ns.length c]) (s, ns) ∧ Below w.heap.size w w' := by
  have HI : Hid (IsRow .u8 w a len cap zs) := h
  clear h
  go_enter Try.func4, Try.ntmps4
  go_wp2_with fail
  refine (open_any _ a len cap zs (isRow_kept HI.out ((Below.refl _ _).alloc (Nat.le_refl _) _))).mono ?_
  rintro e w1 ⟨rfl, hr1, hb1⟩
  have HR1 : Hid (RdAt w1 (w.heap.size + 1) 0) := by show RdAt _ _ _; simpa using hr1
  have HG1 : Hid (w1.heap[w.heap.size]? = some (.cells #[.string ⟨#[]⟩, .slice none 0 0] 25 (0, 0))) := (hb1.block w.heap.size (by simp)).trans (heap_alloc_last w _)
  have HB1 : Hid (Below w.heap.size w w1) := ((Below.refl _ _).alloc (Nat.le_refl _) _).trans (hb1.mono (by simp))
  clear hr1 hb1
  go_wp2_with fail
  refine (l13AnyPattern_any _ (w.heap.size + 1) 0 HR1.out (by omega)).mono ?_
  rintro e w2 ⟨s, ns, hs, hn, b, c, rfl, ho, -, hk⟩
  have HG2 : Hid (w2.heap[w.heap.size]? = some (.cells #[.string ⟨#[]⟩, .slice none 0 0] 25 (0, 0))) := (hk.block w.heap.size (Array.getElem?_eq_some_iff.1 HG1.out).1 (by omega)).trans HG1.out
  have HO2 : Hid (w2.ownsRow (w.heap.size + 1) 3 1 (.slice b ns.length c) ns.length (intV ns)) := owns_lowJ ho (Nat.le_of_lt HR1.out.lt)
  have HB2 : Hid (Below w.heap.size w w2) := hk.below HB1.out (by omega)
  have q0 : w2.cell? ⟨w.heap.size, 0, none⟩ = some (.string ⟨#[]⟩) := by rw [cell_of_row _ _ 0 _ _ _ HG2.out]; rfl
  have q1 : w2.cell? ⟨w.heap.size, 1, none⟩ = some (.slice none 0 0) := by rw [cell_of_row _ _ 1 _ _ _ HG2.out]; rfl
  have f0 := Go.Joins.unfrozen_of_block HG2.out 0
  have f1 := Go.Joins.unfrozen_of_block HG2.out 1
  have g0 : ((w2.setCell ⟨w.heap.size, 0, none⟩ (.string s)).setCell ⟨w.heap.size, 1, none⟩ (.slice b ns.length c)).cell? ⟨w.heap.size, 0, none⟩ = some (.string s) := by
    rw [World.cell?_setCell_other _ _ _ _ (by simp)]
    exact World.cell?_setCell_same _ _ _ q0
  have g1 : ((w2.setCell ⟨w.heap.size, 0, none⟩ (.string s)).setCell ⟨w.heap.size, 1, none⟩ (.slice b ns.length c)).cell? ⟨w.heap.size, 1, none⟩ = some (.slice b ns.length c) :=
    World.cell?_setCell_same _ _ _ ((World.cell?_setCell_other _ _ _ _ (by simp)).trans q1)
  clear ho hk
  go_wp2_with fail
  refine bodyPost_ret (v := .agg #[.string s, .slice b ns.length c]) (by simp [results, Try.results4, go_sem, g0, g1]) rfl ⟨s, ns, b, c, rfl, hs, hn, ⟨_, rfl, by unfold maxLen; show s.size ≤ _; omega, intsAt_owns (owns_setJ (owns_setJ HO2.out (by omega)) (by omega))⟩, (HB2.out.setCell (by simp) _).setCell (by simp) _⟩
set_option maxHeartbeats 1000000 in
theorem drawPatternGet_any (w : World) (a : Option Addr) (len cap : Nat) (zs : List Int) (h : IsRow .u8 w a len cap zs) :
    Calls Try.prog 11 #[.slice a len cap] w fun e w' => ∃ t, e = .returned (.string t) ∧ t.size ≤ 20 ∧ Below w.heap.size w w' := by
  go_enter Try.func11, Try.ntmps11
  go_wp2_with fail
  refine (open_any _ a len cap zs h).mono ?_
  rintro e w1 ⟨rfl, hr1, hb1⟩
  have HR1 : Hid (RdAt w1 w.heap.size 0) := hr1
  have HB1 : Hid (Below w.heap.size w w1) := hb1
  clear hr1 hb1 h
  go_wp2_with fail
  refine (l13Pattern_any _ w.heap.size 0 HR1.out (by omega)).mono ?_
  rintro e w2 ⟨s, ns, hok, b, c, rfl, ho, ⟨q, hr2, hq⟩, hk⟩
  obtain ⟨hp1, hp8, hpl, hpf⟩ := patOk_parts hok
  have HP2 : Hid (PatAt w2 (.agg #[.string s, .slice b ns.length c]) (s, ns)) := ⟨_, rfl, by unfold maxLen; show s.size ≤ _; omega, intsAt_owns ho⟩
  have HB2 : Hid (Below w.heap.size w w2) := hk.below HB1.out (Nat.le_refl _)
  have HR2 : Hid (RdAt w2 w.heap.size q) := hr2
  have HOK : Hid (patOk (s, ns) = true) := hok
  have hns : ns.length ≤ 9 := by omega
  clear ho hr2 hk hok hpf hpl
  go_wp2_with fail
  refine (l9Put_any _ _ s ns HP2.out HOK.out).mono ?_
  rintro e w3 ⟨rfl, hb3⟩
  obtain ⟨P, hP⟩ : ∃ P, putP (s, ns) = P := ⟨_, rfl⟩
  have hPs : P.size ≤ 20 := by rw [← hP]; have : (putP (s, ns)).size ≤ 2 * ns.length := putO_size _ _ _; omega
  rw [hP]
  have HR3 : Hid (RdAt w3 w.heap.size q) := HR2.out.keep hb3
  have HB3 : Hid (Below w.heap.size w w3) := HB2.out.trans (hb3.mono HB2.out.size)
  clear hb3 hP
  go_wp2_with fail
  refine (of_any (fun s => s.size ≤ 20) _ w.heap.size q _ 12 12 (by exact HR3.out.alloc _) (by omega) (by omega) (by omega) (by intro i hi; refine lit_textsG 20 _ _ _ _ (by simp) ?_ i hi; simp [shortV, hPs]; decide) (by have := HR3.out.lt; omega)).mono ?_
  rintro e w4 ⟨t, rfl, ht, -, hk4⟩
  have HB4 : Hid (Below w.heap.size w w4) := hk4.below (HB3.out.alloc HB3.out.size _) (Nat.le_refl _)
  clear hk4
  go_wp2_with fail
  go_ret
  exact ⟨t, rfl, ht, HB4.out⟩
/-- A pattern in a block of its own, to be read. -/
def boxP (w : World) (b : Nat) (s : ByteArray) (a : Option Addr) (c : Nat) (ns : List Int) : Prop :=
  w.heap[b]? = some (.cells #[.string s, .slice a ns.length c] 25 (0, 0)) ∧ PatAt w (.agg #[.string s, .slice a ns.length c]) (s, ns)
theorem boxP.kept {w w' : World} {b : Nat} {s : ByteArray} {a : Option Addr} {c : Nat} {ns : List Int} (h : boxP w b s a c ns) (hb : Below w.heap.size w w') : boxP w' b s a c ns :=
  ⟨(hb.block b (Array.getElem?_eq_some_iff.1 h.1).1).trans h.1, h.2.below hb⟩
theorem boxP.cells {w : World} {b : Nat} {s : ByteArray} {a : Option Addr} {c : Nat} {ns : List Int} (h : boxP w b s a c ns) : w.cell? ⟨b, 0, none⟩ = some (.string s) ∧ w.cell? ⟨b, 1, none⟩ = some (.slice a ns.length c) :=
  ⟨by rw [cell_of_row _ _ 0 _ _ _ h.1]; rfl, by rw [cell_of_row _ _ 1 _ _ _ h.1]; rfl⟩
theorem boxP.laid {w : World} {s : ByteArray} {a : Option Addr} {c : Nat} {ns : List Int} (h : PatAt w (.agg #[.string s, .slice a ns.length c]) (s, ns)) : boxP (w.alloc (.cells #[.string s, .slice a ns.length c] 25)) w.heap.size s a c ns :=
  ⟨heap_alloc_last w _, h.below ((Below.refl _ _).alloc (Nat.le_refl _) _)⟩
theorem gpL_pat {w : World} {lo : Nat} {s : ByteArray} {ns : List Int} {a : Option Addr} {c : Nat} (h : w.ownsRow lo 3 1 (.slice a ns.length c) ns.length (intV ns)) (hs : s.size ≤ maxLen) : PatAt w (.agg #[.string s, .slice a ns.length c]) (s, ns) := ⟨_, rfl, hs, intsAt_owns h⟩
/-- Both boxes, and all that was there. -/
def fpAt (w0 w : World) (b5 b7 : Nat) (s s7 : ByteArray) (a a7 : Option Addr) (c c7 : Nat) (ns ns7 : List Int) : Prop := boxP w b5 s a c ns ∧ boxP w b7 s7 a7 c7 ns7 ∧ Below w0.heap.size w0 w
theorem fpAt.step {w0 w w' : World} {b5 b7 : Nat} {s s7 : ByteArray} {a a7 : Option Addr} {c c7 : Nat} {ns ns7 : List Int} (h : fpAt w0 w b5 b7 s s7 a a7 c c7 ns ns7) (hb : Below w.heap.size w w') : fpAt w0 w' b5 b7 s s7 a a7 c c7 ns ns7 :=
  ⟨h.1.kept hb, h.2.1.kept hb, h.2.2.trans (hb.mono h.2.2.size)⟩
theorem fpAt.drew {w0 w : World} {b5 b7 : Nat} {s s7 : ByteArray} {a a7 : Option Addr} {c c7 : Nat} {ns ns7 : List Int} (h : fpAt w0 w b5 b7 s s7 a a7 c c7 ns ns7) : fpAt w0 w.drew b5 b7 s s7 a a7 c c7 ns ns7 :=
  h.step (Below.drew (Below.refl _ _))
theorem fpAt.cells {w0 w : World} {b5 b7 : Nat} {s s7 : ByteArray} {a a7 : Option Addr} {c c7 : Nat} {ns ns7 : List Int} (h : fpAt w0 w b5 b7 s s7 a a7 c c7 ns ns7) :
    w.cell? ⟨b5, 0, none⟩ = some (.string s) ∧ w.cell? ⟨b5, 1, none⟩ = some (.slice a ns.length c) ∧ w.cell? ⟨b7, 0, none⟩ = some (.string s7) ∧ w.cell? ⟨b7, 1, none⟩ = some (.slice a7 ns7.length c7) :=
  ⟨h.1.cells.1, h.1.cells.2, h.2.1.cells.1, h.2.1.cells.2⟩
set_option maxRecDepth 100000 in
set_option maxHeartbeats 4000000 in
theorem fnPattern_walk (a0 : Option Addr) (len0 cap0 : Nat) (z0 : List Int) (a1 : Option Addr) (len1 cap1 : Nat) (z1 : List Int) (w : World) (h0 : IsRow .u8 w a0 len0 cap0 z0) (h1 : IsRow .u8 w a1 len1 cap1 z1) :
    Calls Try.prog 3 #[.slice a0 len0 cap0, .slice a1 len1 cap1] w fun e w' => e = .returned (.bool true) ∧ Below w.heap.size w w' := by
  by_cases l0 : (1048576 : Int) < (len0 : Int)
  · clear h0 h1
    go_enter Try.func3, Try.ntmps3
    go_wp2
    go_ret
    exact ⟨rfl, Below.refl _ _⟩
  by_cases l1 : (1048576 : Int) < (len1 : Int)
  · clear h0 h1
    go_enter Try.func3, Try.ntmps3
    go_wp2
    go_ret
    exact ⟨rfl, Below.refl _ _⟩
  have H0 : Hid (IsRow .u8 w a0 len0 cap0 z0) := h0
  have H1 : Hid (IsRow .u8 w a1 len1 cap1 z1) := h1
  clear h0 h1
  go_enter Try.func3, Try.ntmps3
  go_wp2_with fail
  refine (drawPatternPut_any w a0 len0 cap0 z0 H0.out).mono ?_
  rintro e w1 ⟨s, ns, a, c, rfl, hs, hns, hpa, hb1⟩
  have P2 : Hid (boxP (w1.alloc (.cells #[.string s, .slice a ns.length c] 25)) w1.heap.size s a c ns) := boxP.laid hpa
  have B2 : Hid (Below w.heap.size w (w1.alloc (.cells #[.string s, .slice a ns.length c] 25))) := hb1.alloc hb1.size _
  have hTs := ppT_size (s, ns)
  have HOP : Hid (∀ b, patOk (s, ns) = b → patOk (s, ns) = b) := fun _ h => h
  have HT : Hid (gpX (ppT (s, ns)) = (if patOk (s, ns) then (s, ns) else (⟨#[]⟩, [])) ∧ gpOk (ppT (s, ns)) = patOk (s, ns) ∧ ((ppT (s, ns)).toList.isEmpty = !patOk (s, ns))) := by
    show _ ∧ _
    cases h : patOk (s, ns) with
    | true =>
      obtain ⟨h2, h3⟩ := gp_back (s, ns) h
      refine ⟨by unfold gpX; rw [h3, h2], h3, ?_⟩
      have h4 : 1 ≤ (ppT (s, ns)).size := by unfold gpOk at h3; simp only [Bool.and_eq_true, decide_eq_true_eq] at h3; exact h3.1
      have h5 : ¬ (ppT (s, ns)).toList = [] := fun g => by have := (toList_nil4 _).1 g; omega
      simpa using h5
    | false =>
      obtain ⟨h2, h3⟩ := gp_none (s, ns) h
      refine ⟨by unfold gpX; rw [h3]; rfl, h3, ?_⟩
      rw [h2, (toList_nil4 ⟨#[]⟩).2 rfl]; rfl
  clear hpa hb1
  obtain ⟨p0, p1⟩ := P2.out.cells
  go_wp2_with fail
  refine (implPatternPut_any _ _ (s, ns) P2.out.2).mono ?_
  rintro e w3 ⟨rfl, hb3⟩
  have P3 : Hid (boxP w3 w1.heap.size s a c ns) := P2.out.kept hb3
  have B3 : Hid (Below w.heap.size w w3) := B2.out.trans (hb3.mono B2.out.size)
  obtain ⟨T, hT⟩ : ∃ T, ppT (s, ns) = T := ⟨_, rfl⟩
  have HTT : Hid (ppT (s, ns) = T) := hT
  rw [hT] at hTs HT ⊢
  have hTs2 : T.size ≤ 2 * ns.length := hTs
  clear hTs
  clear hb3 hT p0 p1 P2 B2
  go_wp2_with fail
  refine (implPatternGet_any T _ (by omega)).mono ?_
  rintro e w4 hq
  have hq2 := hq.parts
  obtain ⟨s7, ns7, hX⟩ : ∃ s7 ns7, gpX T = (s7, ns7) := ⟨_, _, rfl⟩
  have hX2 := gpX_size T
  rw [hX] at hq2 hX2
  have HT1 : Hid ((s7, ns7) = if patOk (s, ns) then (s, ns) else (⟨#[]⟩, [])) := by show _ = _; rw [← hX]; exact HT.out.1
  rw [HT.out.2.1] at hq2
  obtain ⟨a7, c7, rfl, ho, hb⟩ := hq2
  simp only at ho hX2
  have F5 : Hid (fpAt w (w4.alloc (.cells #[.string s7, .slice a7 ns7.length c7] 25)) w1.heap.size w4.heap.size s s7 a a7 c c7 ns ns7) :=
    ⟨(P3.out.kept hb).kept ((Below.refl _ _).alloc (Nat.le_refl _) _), boxP.laid (gpL_pat ho (by unfold maxLen; omega)), (B3.out.trans (hb.mono B3.out.size)).alloc (Nat.le_trans B3.out.size hb.size) _⟩
  clear hq hX hX2 ho hb P3 B3
  obtain ⟨p0, p1, p2, p3⟩ := F5.out.cells
  go_wp2_with fail
  obtain ⟨W5, hW5⟩ : ∃ W5, w4.alloc (.cells #[.string s7, .slice a7 ns7.length c7] 25) = W5 := ⟨_, rfl⟩
  rw [hW5] at F5 p0 p1 p2 p3 ⊢
  clear hW5
  cases hok : patOk (s, ns) with
  | true =>
    have HPO : Hid (patOk (s, ns) = true) := hok
    have HE : T.toList.isEmpty = false := by rw [HT.out.2.2, hok]; rfl
    have hx := HT1.out
    rw [if_pos hok] at hx
    obtain ⟨rfl, rfl⟩ := Prod.mk.inj hx
    clear hx hok
    go_region_held3 (fun w' => w'.cell? ⟨w1.heap.size, 0, none⟩ = some (.string s7) ∧ w'.cell? ⟨w1.heap.size, 1, none⟩ = some (.slice a ns7.length c) ∧ w'.cell? ⟨w4.heap.size, 0, none⟩ = some (.string s7) ∧ w'.cell? ⟨w4.heap.size, 1, none⟩ = some (.slice a7 ns7.length c7)) (go_keep)
      (first
      | (go_at_call 7; refine (specPatternPut_any _ _ (s7, ns7) (by first | exact F5.out.1.2 | exact F5.out.drew.1.2)).mono ?_; rintro e wN ⟨rfl, hbN⟩; have HF2 : Hid (fpAt w wN w1.heap.size w4.heap.size s7 s7 a a7 c c7 ns7 ns7) := (by first | exact F5.out.step hbN | exact F5.out.drew.step hbN); clear F5 p0 p1 p2 p3 hbN; have F5 : Hid (fpAt w wN w1.heap.size w4.heap.size s7 s7 a a7 c c7 ns7 ns7) := HF2.out; clear HF2; obtain ⟨p0, p1, p2, p3⟩ := F5.out.cells; rw [HTT.out])
      | (go_at_call 8; refine (implPatternOk_any _ _ (s7, ns7) (by first | exact F5.out.1.2 | exact F5.out.drew.1.2)).mono ?_; rintro e wN ⟨rfl, hbN⟩; have HF2 : Hid (fpAt w wN w1.heap.size w4.heap.size s7 s7 a a7 c c7 ns7 ns7) := (by first | exact F5.out.step hbN | exact F5.out.drew.step hbN); clear F5 p0 p1 p2 p3 hbN; have F5 : Hid (fpAt w wN w1.heap.size w4.heap.size s7 s7 a a7 c c7 ns7 ns7) := HF2.out; clear HF2; obtain ⟨p0, p1, p2, p3⟩ := F5.out.cells; rw [HPO.out])
      | (go_at_call 9; refine (specPatternOk_any _ _ (s7, ns7) (by first | exact F5.out.1.2 | exact F5.out.drew.1.2)).mono ?_; rintro e wN ⟨rfl, hbN⟩; have HF2 : Hid (fpAt w wN w1.heap.size w4.heap.size s7 s7 a a7 c c7 ns7 ns7) := (by first | exact F5.out.step hbN | exact F5.out.drew.step hbN); clear F5 p0 p1 p2 p3 hbN; have F5 : Hid (fpAt w wN w1.heap.size w4.heap.size s7 s7 a a7 c c7 ns7 ns7) := HF2.out; clear HF2; obtain ⟨p0, p1, p2, p3⟩ := F5.out.cells; rw [HPO.out])
      | (go_at_call 10; refine (mdPattern_any _ _ _ (s7, ns7) (by first | exact F5.out.2.1.2 | exact F5.out.drew.2.1.2) (by first | exact F5.out.1.2 | exact F5.out.drew.1.2)).mono ?_; rintro e wN ⟨rfl, hbN⟩; have HF2 : Hid (fpAt w wN w1.heap.size w4.heap.size s7 s7 a a7 c c7 ns7 ns7) := (by first | exact F5.out.step hbN | exact F5.out.drew.step hbN); clear F5 p0 p1 p2 p3 hbN; have F5 : Hid (fpAt w wN w1.heap.size w4.heap.size s7 s7 a a7 c c7 ns7 ns7) := HF2.out; clear HF2; obtain ⟨p0, p1, p2, p3⟩ := F5.out.cells))
    all_goals
      have B6 : Hid (Below w.heap.size w wN) := F5.out.2.2
      clear F5 p0 p1 p2 p3
      go_wp2_with fail
      refine (drawPatternGet_any _ a1 len1 cap1 z1 (isRow_kept H1.out B6.out)).mono ?_
      rintro e w6 ⟨t, rfl, ht, hb6⟩
      have B7 : Hid (Below w.heap.size w w6) := B6.out.trans (hb6.mono B6.out.size)
      clear hb6 B6
      go_wp2_with fail
      refine (implPatternGet_any t _ (by omega)).mono ?_
      rintro e w8 hq8
      have hX3 := gpX_size t
      obtain ⟨s8, ns8, hX⟩ : ∃ s8 ns8, gpX t = (s8, ns8) := ⟨_, _, rfl⟩
      have HX : Hid (gpX t = (s8, ns8)) := hX
      have hq9 := hq8.parts
      rw [hX] at hq9 hX3
      obtain ⟨B, hB⟩ : ∃ B, gpOk t = B := ⟨_, rfl⟩
      have HBK : Hid (gpOk t = B) := hB
      rw [hB] at hq9
      obtain ⟨a8, c8, rfl, ho8, hb8⟩ := hq9
      simp only at ho8 hX3
      have HS8 : Hid (s8.size ≤ maxLen) := by show _ ≤ _; unfold maxLen; omega
      have P9 : Hid (boxP (w8.alloc (.cells #[.string s8, .slice a8 ns8.length c8] 25)) w8.heap.size s8 a8 c8 ns8) := boxP.laid (gpL_pat ho8 HS8.out)
      have B9 : Hid (Below w.heap.size w (w8.alloc (.cells #[.string s8, .slice a8 ns8.length c8] 25))) := (B7.out.trans (hb8.mono B7.out.size)).alloc (Nat.le_trans B7.out.size hb8.size) _
      clear hq8 hX hB ho8 hb8 B7 hX3
      go_wp2_with fail
      obtain ⟨W9, hW9⟩ : ∃ W9, w8.alloc (.cells #[.string s8, .slice a8 ns8.length c8] 25) = W9 := ⟨_, rfl⟩
      rw [hW9] at P9 B9 ⊢
      clear hW9
      refine (specPatternGet_any t _ (by omega)).mono ?_
      rintro e w10 hq8
      have hq9 := hq8.parts
      rw [HX.out, HBK.out] at hq9
      obtain ⟨a9, c9, rfl, ho9, hb9⟩ := hq9
      simp only at ho9
      have F9 : Hid (fpAt w (w10.alloc (.cells #[.string s8, .slice a9 ns8.length c9] 25)) w8.heap.size w10.heap.size s8 s8 a8 a9 c8 c9 ns8 ns8) :=
        ⟨(P9.out.kept hb9).kept ((Below.refl _ _).alloc (Nat.le_refl _) _), boxP.laid (gpL_pat ho9 HS8.out), (B9.out.trans (hb9.mono B9.out.size)).alloc (Nat.le_trans B9.out.size hb9.size) _⟩
      clear hq8 ho9 hb9 P9 B9
      obtain ⟨p0, p1, p2, p3⟩ := F9.out.cells
      cases B with
      | true =>
        have HPT : Hid (ppT (s8, ns8) = t) := by
          show _ = _
          have h9 := HX.out
          unfold gpX at h9
          rw [HBK.out, if_pos rfl] at h9
          rw [← h9]; exact (gp_put t HBK.out).2
        go_wp2_with fail
        refine (mdPattern_any _ _ _ (s8, ns8) F9.out.1.2 F9.out.2.1.2).mono ?_
        rintro e w11 ⟨rfl, hb11⟩
        have F11 : Hid (fpAt w w11 w8.heap.size w10.heap.size s8 s8 a8 a9 c8 c9 ns8 ns8) := F9.out.step hb11
        clear hb11 p0 p1 p2 p3 F9
        obtain ⟨p0, p1, p2, p3⟩ := F11.out.cells
        go_wp2_with fail
        refine (implPatternPut_any _ _ (s8, ns8) F11.out.1.2).mono ?_
        rintro e w12 ⟨rfl, hb12⟩
        rw [HPT.out]
        have B12 : Hid (Below w.heap.size w w12) := (F11.out.step hb12).2.2
        clear hb12 p0 p1 p2 p3 F11
        go_wp2_with fail
        go_ret
        exact ⟨rfl, B12.out⟩
      | false =>
        go_wp2_with fail
        refine (mdPattern_any _ _ _ (s8, ns8) F9.out.1.2 F9.out.2.1.2).mono ?_
        rintro e w11 ⟨rfl, hb11⟩
        have B12 : Hid (Below w.heap.size w w11) := (F9.out.step hb11).2.2
        clear hb11 p0 p1 p2 p3 F9
        go_wp2_with fail
        go_ret
        exact ⟨rfl, B12.out⟩
  | false =>
    have HPO : Hid (patOk (s, ns) = false) := hok
    have hT0 := (gp_none (s, ns) hok).1
    rw [HTT.out] at hT0
    subst hT0
    clear hok
    refine wp_region_held_drew (S := (fun w' => w'.cell? ⟨w1.heap.size, 0, none⟩ = some (.string s) ∧ w'.cell? ⟨w1.heap.size, 1, none⟩ = some (.slice a ns.length c))) (by kernel_rfl) ?_ (fun hHeld => ?_)
    · (first | go_keep | ((try dsimp only); go_keep))
    refine wpAnyH_takeD5 (i := 0) (d := 31) (v := .string ⟨#[]⟩) rfl (by kernel_rfl) (by kernel_rfl) (by kernel_rfl) (fun _ _ _ h => h) (Or.inl ⟨by rfl, by intro w hSw; (try dsimp only at hSw); go_simp⟩) (by assumption) rfl ?_
    simp only [Act.put, List.setIfInBounds_toArray, List.set_cons_zero, List.set_cons_succ]
    refine wpAnyH_takeD5 (i := 1) (d := 32) (v := .agg #[.string s, .slice a ns.length c]) rfl (by kernel_rfl) (by kernel_rfl) (by kernel_rfl) (fun _ _ _ h => h) (Or.inl ⟨by rfl, by intro w hSw; (try dsimp only at hSw); go_simp⟩) (by assumption) rfl ?_
    simp only [Act.put, List.setIfInBounds_toArray, List.set_cons_zero, List.set_cons_succ]
    refine wpAnyH_ready (rs := [2]) (by kernel_rfl) (by simp) ?_
    refine AllReadyH.cons rfl (fun K hK => ?_) AllReadyH.nil
    go_simp
    refine (specPatternPut_any _ _ (s, ns) (by first | exact F5.out.1.2 | exact F5.out.drew.1.2)).mono ?_
    rintro e wN ⟨rfl, hbN⟩
    have HF2 : Hid (fpAt w wN w1.heap.size w4.heap.size s s7 a a7 c c7 ns ns7) := (by first | exact F5.out.step hbN | exact F5.out.drew.step hbN)
    clear F5 p0 p1 p2 p3 hbN
    have F5 : Hid (fpAt w wN w1.heap.size w4.heap.size s s7 a a7 c c7 ns ns7) := HF2.out
    clear HF2
    obtain ⟨p0, p1, p2, p3⟩ := F5.out.cells
    rw [HTT.out]
    refine hK.out _ _ ?_ (fun hHeld => ?_)
    · (first | go_keep | ((try dsimp only); go_keep))
    clear hK K
    try simp only [Act.put, List.setIfInBounds_toArray, List.set_cons_zero, List.set_cons_succ]
    refine wpAnyH_takeD5 (i := 3) (d := 34) (v := .bool false) rfl (by kernel_rfl) (by kernel_rfl) (by kernel_rfl) (fun _ _ _ h => h) (Or.inl ⟨by rfl, by intro w hSw; (try dsimp only at hSw); go_simp⟩) (by assumption) rfl ?_
    simp only [Act.put, List.setIfInBounds_toArray, List.set_cons_zero, List.set_cons_succ]
    refine wpAnyH_takeD5 (i := 4) (d := 35) (v := .bool false) rfl (by kernel_rfl) (by kernel_rfl) (by kernel_rfl) (fun _ _ _ h => h) (Or.inl ⟨by rfl, by intro w hSw; (try dsimp only at hSw); go_simp⟩) (by assumption) rfl ?_
    simp only [Act.put, List.setIfInBounds_toArray, List.set_cons_zero, List.set_cons_succ]
    refine wpAnyH_takeD5 (i := 5) (d := 36) (v := .agg #[.string s, .slice a ns.length c]) rfl (by kernel_rfl) (by kernel_rfl) (by kernel_rfl) (fun _ _ _ h => h) (Or.inl ⟨by rfl, by intro w hSw; (try dsimp only at hSw); go_simp⟩) (by assumption) rfl ?_
    simp only [Act.put, List.setIfInBounds_toArray, List.set_cons_zero, List.set_cons_succ]
    refine wpAnyH_takeD5 (i := 7) (d := 38) (v := .agg #[.string s, .slice a ns.length c]) rfl (by kernel_rfl) (by kernel_rfl) (by kernel_rfl) (fun _ _ _ h => h) (Or.inl ⟨by rfl, by intro w hSw; (try dsimp only at hSw); go_simp⟩) (by assumption) rfl ?_
    simp only [Act.put, List.setIfInBounds_toArray, List.set_cons_zero, List.set_cons_succ]
    refine wpAnyH_ready (rs := [6]) (by kernel_rfl) (by simp) ?_
    refine AllReadyH.cons rfl (fun K hK => ?_) AllReadyH.nil
    go_simp
    refine (implPatternOk_any _ _ (s, ns) (by first | exact F5.out.1.2 | exact F5.out.drew.1.2)).mono ?_
    rintro e wN ⟨rfl, hbN⟩
    have HF2 : Hid (fpAt w wN w1.heap.size w4.heap.size s s7 a a7 c c7 ns ns7) := (by first | exact F5.out.step hbN | exact F5.out.drew.step hbN)
    clear F5 p0 p1 p2 p3 hbN
    have F5 : Hid (fpAt w wN w1.heap.size w4.heap.size s s7 a a7 c c7 ns ns7) := HF2.out
    clear HF2
    obtain ⟨p0, p1, p2, p3⟩ := F5.out.cells
    rw [HPO.out]
    refine hK.out _ _ ?_ (fun hHeld => ?_)
    · (first | go_keep | ((try dsimp only); go_keep))
    clear hK K
    try simp only [Act.put, List.setIfInBounds_toArray, List.set_cons_zero, List.set_cons_succ]
    refine wpAnyH_ready (rs := [8]) (by kernel_rfl) (by simp) ?_
    refine AllReadyH.cons rfl (fun K hK => ?_) AllReadyH.nil
    go_simp
    refine (specPatternOk_any _ _ (s, ns) (by first | exact F5.out.1.2 | exact F5.out.drew.1.2)).mono ?_
    rintro e wN ⟨rfl, hbN⟩
    have HF2 : Hid (fpAt w wN w1.heap.size w4.heap.size s s7 a a7 c c7 ns ns7) := (by first | exact F5.out.step hbN | exact F5.out.drew.step hbN)
    clear F5 p0 p1 p2 p3 hbN
    have F5 : Hid (fpAt w wN w1.heap.size w4.heap.size s s7 a a7 c c7 ns ns7) := HF2.out
    clear HF2
    obtain ⟨p0, p1, p2, p3⟩ := F5.out.cells
    rw [HPO.out]
    refine hK.out _ _ ?_ (fun hHeld => ?_)
    · (first | go_keep | ((try dsimp only); go_keep))
    clear hK K
    try simp only [Act.put, List.setIfInBounds_toArray, List.set_cons_zero, List.set_cons_succ]
    refine wpAnyH_takeD5 (i := 9) (d := 40) (v := .bool false) rfl (by kernel_rfl) (by kernel_rfl) (by kernel_rfl) (fun _ _ _ h => h) (Or.inl ⟨by rfl, by intro w hSw; (try dsimp only at hSw); go_simp⟩) (by assumption) rfl ?_
    simp only [Act.put, List.setIfInBounds_toArray, List.set_cons_zero, List.set_cons_succ]
    refine wpAnyH_takeD5 (i := 10) (d := 41) (v := .bool false) rfl (by kernel_rfl) (by kernel_rfl) (by kernel_rfl) (fun _ _ _ h => h) (Or.inl ⟨by rfl, by intro w hSw; (try dsimp only at hSw); go_simp⟩) (by assumption) rfl ?_
    simp only [Act.put, List.setIfInBounds_toArray, List.set_cons_zero, List.set_cons_succ]
    refine wpAnyH_takeD5 (i := 11) (d := 42) (v := .bool false) rfl (by kernel_rfl) (by kernel_rfl) (by kernel_rfl) (fun _ _ _ h => h) (Or.inl ⟨by rfl, by intro w hSw; (try dsimp only at hSw); go_simp⟩) (by assumption) rfl ?_
    simp only [Act.put, List.setIfInBounds_toArray, List.set_cons_zero, List.set_cons_succ]
    refine wpAnyH_takeD5 (i := 12) (d := 43) (v := .bool false) rfl (by kernel_rfl) (by kernel_rfl) (by kernel_rfl) (fun _ _ _ h => h) (Or.inl ⟨by rfl, by intro w hSw; (try dsimp only at hSw); go_simp⟩) (by assumption) rfl ?_
    simp only [Act.put, List.setIfInBounds_toArray, List.set_cons_zero, List.set_cons_succ]
    refine wpAnyH_takeD5 (i := 13) (d := 44) (v := .string ⟨#[]⟩) rfl (by kernel_rfl) (by kernel_rfl) (by kernel_rfl) (fun _ _ _ h => h) (Or.inl ⟨by rfl, by intro w hSw; (try dsimp only at hSw); go_simp⟩) (by assumption) rfl ?_
    simp only [Act.put, List.setIfInBounds_toArray, List.set_cons_zero, List.set_cons_succ]
    refine wpAnyH_takeD5 (i := 14) (d := 45) (v := .bool false) rfl (by kernel_rfl) (by kernel_rfl) (by kernel_rfl) (fun _ _ _ h => h) (Or.inl ⟨by rfl, by intro w hSw; (try dsimp only at hSw); go_simp⟩) (by assumption) rfl ?_
    simp only [Act.put, List.setIfInBounds_toArray, List.set_cons_zero, List.set_cons_succ]
    refine wpAnyH_takeD5 (i := 15) (d := 46) (v := .bool false) rfl (by kernel_rfl) (by kernel_rfl) (by kernel_rfl) (fun _ _ _ h => h) (Or.inl ⟨by rfl, by intro w hSw; (try dsimp only at hSw); go_simp⟩) (by assumption) rfl ?_
    simp only [Act.put, List.setIfInBounds_toArray, List.set_cons_zero, List.set_cons_succ]
    refine wpAnyH_takeD5 (i := 16) (d := 47) (v := .bool false) rfl (by kernel_rfl) (by kernel_rfl) (by kernel_rfl) (fun _ _ _ h => h) (Or.inl ⟨by rfl, by intro w hSw; (try dsimp only at hSw); go_simp⟩) (by assumption) rfl ?_
    simp only [Act.put, List.setIfInBounds_toArray, List.set_cons_zero, List.set_cons_succ]
    refine wpAnyH_takeD5 (i := 17) (d := 48) (v := .bool false) rfl (by kernel_rfl) (by kernel_rfl) (by kernel_rfl) (fun _ _ _ h => h) (Or.inl ⟨by rfl, by intro w hSw; (try dsimp only at hSw); go_simp⟩) (by assumption) rfl ?_
    simp only [Act.put, List.setIfInBounds_toArray, List.set_cons_zero, List.set_cons_succ]
    refine wpAnyH_takeD5 (i := 18) (d := 49) (v := .bool false) rfl (by kernel_rfl) (by kernel_rfl) (by kernel_rfl) (fun _ _ _ h => h) (Or.inl ⟨by rfl, by intro w hSw; (try dsimp only at hSw); go_simp⟩) (by assumption) rfl ?_
    simp only [Act.put, List.setIfInBounds_toArray, List.set_cons_zero, List.set_cons_succ]
    refine wpAnyH_takeD5 (i := 19) (d := 50) (v := .bool false) rfl (by kernel_rfl) (by kernel_rfl) (by kernel_rfl) (fun _ _ _ h => h) (Or.inl ⟨by rfl, by intro w hSw; (try dsimp only at hSw); go_simp⟩) (by assumption) rfl ?_
    simp only [Act.put, List.setIfInBounds_toArray, List.set_cons_zero, List.set_cons_succ]
    refine wpAnyH_takeD5 (i := 20) (d := 51) (v := undef) rfl (by kernel_rfl) (by kernel_rfl) (by kernel_rfl) (fun _ _ _ h => h) (Or.inr ⟨by rfl, rfl⟩) (by assumption) rfl ?_
    simp only [Act.put, List.setIfInBounds_toArray, List.set_cons_zero, List.set_cons_succ]
    refine wpAnyH_takeD5 (i := 21) (d := 52) (v := undef) rfl (by kernel_rfl) (by kernel_rfl) (by kernel_rfl) (fun _ _ _ h => h) (Or.inr ⟨by rfl, rfl⟩) (by assumption) rfl ?_
    simp only [Act.put, List.setIfInBounds_toArray, List.set_cons_zero, List.set_cons_succ]
    refine wpAnyH_takeD5 (i := 22) (d := 53) (v := undef) rfl (by kernel_rfl) (by kernel_rfl) (by kernel_rfl) (fun _ _ _ h => h) (Or.inr ⟨by rfl, rfl⟩) (by assumption) rfl ?_
    simp only [Act.put, List.setIfInBounds_toArray, List.set_cons_zero, List.set_cons_succ]
    refine wpAnyH_takeD5 (i := 23) (d := 54) (v := undef) rfl (by kernel_rfl) (by kernel_rfl) (by kernel_rfl) (fun _ _ _ h => h) (Or.inr ⟨by rfl, rfl⟩) (by assumption) rfl ?_
    simp only [Act.put, List.setIfInBounds_toArray, List.set_cons_zero, List.set_cons_succ]
    refine wpAnyH_takeD5 (i := 24) (d := 55) (v := .bool false) rfl (by kernel_rfl) (by kernel_rfl) (by kernel_rfl) (fun _ _ _ h => h) (Or.inl ⟨by rfl, by intro w hSw; (try dsimp only at hSw); go_simp⟩) (by assumption) rfl ?_
    simp only [Act.put, List.setIfInBounds_toArray, List.set_cons_zero, List.set_cons_succ]
    refine wpAnyH_takeD5 (i := 25) (d := 56) (v := .bool false) rfl (by kernel_rfl) (by kernel_rfl) (by kernel_rfl) (fun _ _ _ h => h) (Or.inl ⟨by rfl, by intro w hSw; (try dsimp only at hSw); go_simp⟩) (by assumption) rfl ?_
    simp only [Act.put, List.setIfInBounds_toArray, List.set_cons_zero, List.set_cons_succ]
    refine wpAnyH_done (by kernel_rfl) ?_ _
    have B6 : Hid (Below w.heap.size w wN) := F5.out.2.2
    clear F5 p0 p1 p2 p3
    go_wp2_with fail
    refine (drawPatternGet_any _ a1 len1 cap1 z1 (isRow_kept H1.out B6.out)).mono ?_
    rintro e w6 ⟨t, rfl, ht, hb6⟩
    have B7 : Hid (Below w.heap.size w w6) := B6.out.trans (hb6.mono B6.out.size)
    clear hb6 B6
    go_wp2_with fail
    refine (implPatternGet_any t _ (by omega)).mono ?_
    rintro e w8 hq8
    have hX3 := gpX_size t
    obtain ⟨s8, ns8, hX⟩ : ∃ s8 ns8, gpX t = (s8, ns8) := ⟨_, _, rfl⟩
    have HX : Hid (gpX t = (s8, ns8)) := hX
    have hq9 := hq8.parts
    rw [hX] at hq9 hX3
    obtain ⟨B, hB⟩ : ∃ B, gpOk t = B := ⟨_, rfl⟩
    have HBK : Hid (gpOk t = B) := hB
    rw [hB] at hq9
    obtain ⟨a8, c8, rfl, ho8, hb8⟩ := hq9
    simp only at ho8 hX3
    have HS8 : Hid (s8.size ≤ maxLen) := by show _ ≤ _; unfold maxLen; omega
    have P9 : Hid (boxP (w8.alloc (.cells #[.string s8, .slice a8 ns8.length c8] 25)) w8.heap.size s8 a8 c8 ns8) := boxP.laid (gpL_pat ho8 HS8.out)
    have B9 : Hid (Below w.heap.size w (w8.alloc (.cells #[.string s8, .slice a8 ns8.length c8] 25))) := (B7.out.trans (hb8.mono B7.out.size)).alloc (Nat.le_trans B7.out.size hb8.size) _
    clear hq8 hX hB ho8 hb8 B7 hX3
    go_wp2_with fail
    obtain ⟨W9, hW9⟩ : ∃ W9, w8.alloc (.cells #[.string s8, .slice a8 ns8.length c8] 25) = W9 := ⟨_, rfl⟩
    rw [hW9] at P9 B9 ⊢
    clear hW9
    refine (specPatternGet_any t _ (by omega)).mono ?_
    rintro e w10 hq8
    have hq9 := hq8.parts
    rw [HX.out, HBK.out] at hq9
    obtain ⟨a9, c9, rfl, ho9, hb9⟩ := hq9
    simp only at ho9
    have F9 : Hid (fpAt w (w10.alloc (.cells #[.string s8, .slice a9 ns8.length c9] 25)) w8.heap.size w10.heap.size s8 s8 a8 a9 c8 c9 ns8 ns8) :=
      ⟨(P9.out.kept hb9).kept ((Below.refl _ _).alloc (Nat.le_refl _) _), boxP.laid (gpL_pat ho9 HS8.out), (B9.out.trans (hb9.mono B9.out.size)).alloc (Nat.le_trans B9.out.size hb9.size) _⟩
    clear hq8 ho9 hb9 P9 B9
    obtain ⟨p0, p1, p2, p3⟩ := F9.out.cells
    cases B with
    | true =>
      have HPT : Hid (ppT (s8, ns8) = t) := by
        show _ = _
        have h9 := HX.out
        unfold gpX at h9
        rw [HBK.out, if_pos rfl] at h9
        rw [← h9]; exact (gp_put t HBK.out).2
      go_wp2_with fail
      refine (mdPattern_any _ _ _ (s8, ns8) F9.out.1.2 F9.out.2.1.2).mono ?_
      rintro e w11 ⟨rfl, hb11⟩
      have F11 : Hid (fpAt w w11 w8.heap.size w10.heap.size s8 s8 a8 a9 c8 c9 ns8 ns8) := F9.out.step hb11
      clear hb11 p0 p1 p2 p3 F9
      obtain ⟨p0, p1, p2, p3⟩ := F11.out.cells
      go_wp2_with fail
      refine (implPatternPut_any _ _ (s8, ns8) F11.out.1.2).mono ?_
      rintro e w12 ⟨rfl, hb12⟩
      rw [HPT.out]
      have B12 : Hid (Below w.heap.size w w12) := (F11.out.step hb12).2.2
      clear hb12 p0 p1 p2 p3 F11
      go_wp2_with fail
      go_ret
      exact ⟨rfl, B12.out⟩
    | false =>
      go_wp2_with fail
      refine (mdPattern_any _ _ _ (s8, ns8) F9.out.1.2 F9.out.2.1.2).mono ?_
      rintro e w11 ⟨rfl, hb11⟩
      have B12 : Hid (Below w.heap.size w w11) := (F9.out.step hb11).2.2
      clear hb11 p0 p1 p2 p3 F9
      go_wp2_with fail
      go_ret
      exact ⟨rfl, B12.out⟩
end Go.Proofs.Ytehpdlokacdifaa
