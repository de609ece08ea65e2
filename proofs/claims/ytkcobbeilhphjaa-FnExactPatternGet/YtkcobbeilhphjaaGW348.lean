/-
  impl.PatternGet.
-/
import Derived.Test.YtkcobbeilhphjaaW344
import Derived.Test.YtkcobbeilhphjaaGM46
import Derived.Laws.OwnMore
namespace Go.Proofs.Ytkcobbeilhphjaa
open Go.RowKit
set_option linter.unusedVariables false
/-- Numbers as cells. -/
def intV (ns : List Int) : List Value := ns.map fun n => .int .i64 n
theorem intV_length (ns : List Int) : (intV ns).length = ns.length := by simp [intV]
theorem intV_app (a b : List Int) : intV (a ++ b) = intV a ++ intV b := by simp [intV]
theorem intV_set (ns : List Int) (j : Nat) (x : Int) : (intV ns).set j (.int .i64 x) = intV (ns.set j x) := by simp [intV, List.map_set]
theorem intV_at {ns : List Int} {j : Nat} {x : Int} (h : ns[j]? = some x) : (intV ns)[j]? = some (.int .i64 x) := by simp [intV, h]
theorem intsAt_owns {w : World} {lo : Nat} {v : Value} {ns : List Int} (h : w.ownsRow lo 3 1 v ns.length (intV ns)) : IntsAt w v ns := by
  rcases h.2 with ⟨rfl, h0⟩ | ⟨g, cap, cur, rfl, hbase, hb, h1, h2, h3, h4⟩
  · have hz : ns = [] := List.length_eq_zero_iff.1 h0
    subst hz
    exact ⟨none, 0, rfl, Nat.le_refl _, Nat.zero_le _, fun hn => absurd rfl hn⟩
  · have hg : g < w.heap.size := (Array.getElem?_eq_some_iff.1 hb).1
    refine ⟨some ⟨g, 0, none⟩, cap, rfl, h1, Nat.le_trans h1 h2, fun _ => ⟨g, 0, rfl, hg, fun i x hx => ?_⟩⟩
    have hi : i < ns.length := (List.getElem?_eq_some_iff.1 hx).1
    rw [cell_of_row w g _ cur _ _ hb, Nat.zero_add]
    have e1 : (cur.toList.take (ns.length * 1))[i]? = (intV ns)[i]? := by rw [h4]
    rw [List.getElem?_take_of_lt (by omega), intV_at hx, Array.getElem?_toList] at e1
    exact e1
/-- A row of numbers is kept by what a builder's writers do. -/
theorem owns_others {w w' : World} {lo b : Nat} {v : Value} {ns : List Int} {cB : Array Value} {fB : Nat × Nat} (h : w.ownsRow lo 3 1 v ns.length (intV ns)) (hk : Lib.OthersKept 5 (some b) w w') (hb : w.heap[b]? = some (.cells cB 46 fB)) :
    w'.ownsRow lo 3 1 v ns.length (intV ns) := by
  refine ⟨h.1, ?_⟩
  rcases h.2 with h2 | ⟨g, cap, cur, hv, hg, hh, r⟩
  · exact .inl h2
  · refine .inr ⟨g, cap, cur, hv, hg, hk g _ hh (fun e => ?_) (fun c fz e => ?_), r⟩
    · have e2 : g = b := Option.some.inj e
      rw [e2, hb] at hh
      simp at hh
    · simp at e
theorem owns_belowI {w w' : World} {lo : Nat} {v : Value} {ns : List Int} (h : w.ownsRow lo 3 1 v ns.length (intV ns)) (hb : Below w.heap.size w w') : w'.ownsRow lo 3 1 v ns.length (intV ns) := by
  refine ⟨h.1, ?_⟩
  rcases h.2 with h2 | ⟨g, cap, cur, hv, hg, hh, r⟩
  · exact .inl h2
  · exact .inr ⟨g, cap, cur, hv, hg, (hb.block g (Array.getElem?_eq_some_iff.1 hh).1).trans hh, r⟩
/-- A builder's own block. -/
theorem builder_block {T e : TypeId} {B b : Nat} {bs : List Value} {w : World} (h : Lib.IsBuilder T e B b bs w) : ∃ c fz, w.heap[b]? = some (.cells c T fz) := by
  rcases h with ⟨_, v, hb, _⟩ | ⟨_, v, hb, _⟩ <;> exact ⟨_, _, hb⟩
theorem Try.info_intJ : (Try.prog.info? 3).map (fun i => (i.zero, i.size, i.bytes)) = some (some (.int .i64 0), 1, 8) := by kernel_rfl
theorem between_eq5 (s : ByteArray) (lo hi : Int) (b : Bool) (w : World) (hs : s.size ≤ maxLen) (h : inr lo hi s.data.toList = b) :
    Calls Try.prog 22 #[.string s, .int .u8 lo, .int .u8 hi] w fun e w' => e = .returned (.bool b) ∧ w' = w := by
  rw [← h]; exact between_any s lo hi w hs
/-- What is read of a text, and whether it was one. -/
def gpM (t : ByteArray) : PatM := (⟨(rdL t.data.toList t.size).toArray⟩, rdN t.data.toList t.size)
def gpOk (t : ByteArray) : Bool := decide (1 ≤ t.size) && ((ppT (gpM t)).toList == t.toList)
/-- What PatternGet tells. -/
def gpPost (t : ByteArray) (w : World) (e : Ending) (w' : World) : Prop :=
  ∃ (x : PatM) (vn : Value), e = .returned (.tuple #[.agg #[.string x.1, vn], .bool (gpOk t)]) ∧ x = (if gpOk t then gpM t else (⟨#[]⟩, [])) ∧ w'.ownsRow w.heap.size 3 1 vn x.2.length (intV x.2) ∧ Below w.heap.size w w'
theorem alloc_cellJ (w : World) (o : Obj) (b i : Nat) (h : b < w.heap.size) : (w.alloc o).cell? ⟨b, i, none⟩ = w.cell? ⟨b, i, none⟩ := ((Below.refl w.heap.size w).alloc (Nat.le_refl _) o).cell (p := ⟨b, i, none⟩) h
theorem owns_lowJ {w : World} {lo lo' : Nat} {v : Value} {n : Nat} {xs : List Value} (h : w.ownsRow lo 3 1 v n xs) (hl : lo' ≤ lo) : w.ownsRow lo' 3 1 v n xs := by
  refine ⟨h.1, ?_⟩
  rcases h.2 with h2 | ⟨g, cap, cur, hv, hg, r⟩
  · exact .inl h2
  · exact .inr ⟨g, cap, cur, hv, by omega, r⟩
theorem owns_setJ {w : World} {lo b i : Nat} {v u : Value} {n : Nat} {xs : List Value} (h : w.ownsRow lo 3 1 v n xs) (hb : b < lo) : (w.setCell ⟨b, i, none⟩ u).ownsRow lo 3 1 v n xs := by
  refine ⟨h.1, ?_⟩
  rcases h.2 with h2 | ⟨g, cap, cur, hv, hg, hh, r⟩
  · exact .inl h2
  · exact .inr ⟨g, cap, cur, hv, hg, (Below.heap_setCell _ _ _ _ (by show g ≠ b; omega)).trans hh, r⟩
set_option maxRecDepth 100000 in
set_option maxHeartbeats 4000000 in
theorem implPatternGet_any (t : ByteArray) (w : World) (ht : t.size ≤ 1048576) :
    Calls Try.prog 14 #[.string t] w fun e w' => gpPost t w e w' := by
  obtain ⟨i0, hi, hz0, hz1, hz2⟩ := info_parts Try.info_intJ
  obtain ⟨W0, hW0⟩ : ∃ W0, ((w.alloc (.cells #[.string ⟨#[]⟩, .slice none 0 0] 27)).alloc (.cells #[.pointer none, .slice none 0 0] 46)).alloc (.cells #[.int .i64 0] 3) = W0 := ⟨_, rfl⟩
  have HB0 : Hid (Below w.heap.size w W0) := by show Below _ _ _; rw [← hW0]; exact (((Below.refl _ _).alloc (Nat.le_refl _) _).alloc (by simp) _).alloc (by simp <;> omega) _
  have HSZ : Hid (W0.heap.size = w.heap.size + 3) := by show _ = _; rw [← hW0]; simp
  have HG0 : Hid (W0.heap[w.heap.size + 2]? = some (.cells #[.int .i64 0] 3 (0, 0))) := by
    show _ = _
    rw [← hW0]
    have := heap_alloc_last ((w.alloc (.cells #[.string ⟨#[]⟩, .slice none 0 0] 27)).alloc (.cells #[.pointer none, .slice none 0 0] 46)) (.cells #[.int .i64 0] 3)
    simpa using this
  have HG1 : Hid (W0.heap[w.heap.size + 1]? = some (.cells #[.pointer none, .slice none 0 0] 46 (0, 0))) := by
    show _ = _
    rw [← hW0, Below.heap_alloc _ _ _ (by simp)]
    have := heap_alloc_last (w.alloc (.cells #[.string ⟨#[]⟩, .slice none 0 0] 27)) (.cells #[.pointer none, .slice none 0 0] 46)
    simpa using this
  have HG2 : Hid (W0.heap[w.heap.size]? = some (.cells #[.string ⟨#[]⟩, .slice none 0 0] 27 (0, 0))) := by
    show _ = _
    rw [← hW0, Below.heap_alloc _ _ _ (by simp <;> omega), Below.heap_alloc _ _ _ (by simp)]
    exact heap_alloc_last w _
  have I0 : Hid (Lib.IsBuilder 46 5 (w.heap.size + 1) (w.heap.size + 1) (Lib.byteCells []) W0) := .inl ⟨Nat.le_refl _, .slice none 0 0, HG1.out, World.ownsRow_nil .., by simp [Value.ownBlock]⟩
  have O0 : Hid (W0.ownsRow (w.heap.size + 1) 3 1 (.slice (some ⟨w.heap.size + 2, 0, none⟩) 1 1) 1 (intV [0])) := ⟨rfl, .inr ⟨w.heap.size + 2, 1, #[.int .i64 0], rfl, by omega, HG0.out, Nat.le_refl _, by decide, rfl, rfl⟩⟩
  go_enter Try.func14, Try.ntmps14
  go_wp2
  clear hW0
  go_loopw [5, 11] (fun v i wr => ∃ (k g cap : Nat), k ≤ t.size ∧ i = .int .i64 k ∧ v = .slice (some ⟨g, 0, none⟩) (rdN t.data.toList k).length cap ∧ wr.ownsRow (w.heap.size + 1) 3 1 (.slice (some ⟨g, 0, none⟩) (rdN t.data.toList k).length cap) (rdN t.data.toList k).length (intV (rdN t.data.toList k)) ∧
    Lib.IsBuilder 46 5 (w.heap.size + 1) (w.heap.size + 1) (Lib.byteCells (rdL t.data.toList k)) wr ∧ Below (w.heap.size + 1) W0 wr) (fun _ i _ => t.size - (intOf i).toNat)
  case atStart => exact ⟨0, w.heap.size + 2, 1, Nat.zero_le _, rfl, rfl, O0.out, I0.out, Below.refl _ _⟩
  case round =>
    obtain ⟨k, g, cap, hk, rfl, rfl, ho, hbd, hb⟩ := hrel
    have HO : Hid (wr.ownsRow (w.heap.size + 1) 3 1 (.slice (some ⟨g, 0, none⟩) (rdN t.data.toList k).length cap) (rdN t.data.toList k).length (intV (rdN t.data.toList k))) := ho
    have HBD : Hid (Lib.IsBuilder 46 5 (w.heap.size + 1) (w.heap.size + 1) (Lib.byteCells (rdL t.data.toList k)) wr) := hbd
    have HB : Hid (Below (w.heap.size + 1) W0 wr) := hb
    have hn1 := rdN_len t.data.toList k
    have hn2 := rdL_len t.data.toList k
    clear ho hbd hb
    by_cases hlt : k < t.size
    · have HK : Hid (t.data.toList[k]? = some t[k]) := at_get t k hlt
      have hE : (t.extract k (k + 1)).size ≤ maxLen := by unfold maxLen; rw [ByteArray.size_extract]; omega
      have HE : Hid _ := hE
      have HIN : Hid (inr 48 57 (t.extract k (k + 1)).data.toList = digB t[k]) := by
        show _ = _
        rw [ext_one5 t k hlt]; simp [inr, digB]
      have hk1 : (k : Int) < (t.size : Int) := by omega
      clear hE
      cases hd : digB t[k] with
      | true =>
        have HIX : Hid (inr 48 57 (t.extract k (k + 1)).data.toList = true) := HIN.out.trans hd
        have hst := rd_dig HK.out hd
        have HS1 : Hid _ := hst.1
        have HS2 : Hid _ := hst.2
        have hdd : 48 ≤ (t[k].toNat : Int) ∧ (t[k].toNat : Int) ≤ 57 := by unfold digB at hd; simpa using hd
        obtain ⟨p, hp⟩ : ∃ p : Nat, (rdN t.data.toList k).length - 1 = p := ⟨_, rfl⟩
        have hw1 : IntKind.i64.wrap (((rdN t.data.toList k).length : Int) - 1) = (p : Int) := by rw [IntWalk.i64_in _ (by omega)]; omega
        have hpl : (p : Int) < ((rdN t.data.toList k).length : Int) := by omega
        have hw2 : IntKind.u8.wrap ((t[k].toNat : Int) - 48) = (t[k].toNat : Int) - 48 := by simp [IntKind.wrap, IntKind.bits, IntKind.signed]; omega
        obtain ⟨x0, hpg⟩ : ∃ x0, (rdN t.data.toList k)[p]? = some x0 := ⟨_, List.getElem?_eq_getElem (by omega)⟩
        have cp : wr.cell? ⟨g, p, none⟩ = some (.int .i64 x0) := (World.ownsRow.cellAt HO.out p (by omega)).trans (intV_at hpg)
        have fp := World.ownsRow.frozenAt HO.out p
        obtain ⟨hs1, hs2⟩ := World.ownsRow.stored HO.out p (.int .i64 ((t[k].toNat : Int) - 48))
        rw [intV_set] at hs1
        have HN1 : Hid (rdN t.data.toList (k + 1) = (rdN t.data.toList k).set p ((t[k].toNat : Int) - 48)) := by show _ = _; rw [HS2.out, hp]
        have hlen : (rdN t.data.toList (k + 1)).length = (rdN t.data.toList k).length := by rw [HN1.out, List.length_set]
        have HLEN : Hid _ := hlen
        have HST : Hid ((wr.setCell ⟨g, p, none⟩ (.int .i64 ((t[k].toNat : Int) - 48))).ownsRow (w.heap.size + 1) 3 1 (.slice (some ⟨g, 0, none⟩) (rdN t.data.toList (k + 1)).length cap) (rdN t.data.toList (k + 1)).length (intV (rdN t.data.toList (k + 1)))) := by
          show World.ownsRow _ _ _ _ _ _ _
          rw [hlen, HN1.out]; exact hs1
        have HBD2 : Hid (Lib.IsBuilder 46 5 (w.heap.size + 1) (w.heap.size + 1) (Lib.byteCells (rdL t.data.toList (k + 1))) (wr.setCell ⟨g, p, none⟩ (.int .i64 ((t[k].toNat : Int) - 48)))) := by
          show Lib.IsBuilder _ _ _ _ _ _
          rw [HS1.out]
          have hgw : ∃ c fz, wr.heap[g]? = some (.cells c 3 fz) := by
            rcases HO.out.2 with ⟨h, _⟩ | ⟨g', c', cur, h, _, hh, _⟩
            · simp at h
            · simp only [Value.slice.injEq, Option.some.injEq, Addr.mk.injEq, and_true, true_and] at h
              obtain ⟨rfl, rfl⟩ := h
              exact ⟨_, _, hh⟩
          obtain ⟨cc, fz, hcc⟩ := hgw
          refine builder_kept HBD.out g (fun q hq hne => Below.heap_setCell _ _ _ _ hne) (fun e => ?_) (fun c f h => ?_)
          · obtain ⟨c1, f1, h1⟩ := builder_block HBD.out
            rw [e, hcc] at h1
            simp at h1
          · rw [hcc] at h
            simp at h
        have HB2 : Hid (Below (w.heap.size + 1) W0 (wr.setCell ⟨g, p, none⟩ (.int .i64 ((t[k].toNat : Int) - 48)))) := HB.out.setCell (by
          rcases HO.out.2 with ⟨h, _⟩ | ⟨g', c', cur, h, hb, hh, _⟩
          · simp at h
          · simp only [Value.slice.injEq, Option.some.injEq, Addr.mk.injEq, and_true, true_and] at h
            obtain ⟨rfl, rfl⟩ := h
            exact hb) _
        clear hs1 hs2 hst hd hpg hlen hn1 hn2
        go_wp2_with (go_at_call 22; refine (between_eq5 _ 48 57 _ _ HE.out HIX.out).mono ?_; rintro e w' ⟨rfl, hw⟩; have hw2 := hw.symm; clear hw; subst hw2)
        go_roundw
        case rel => exact ⟨k + 1, g, cap, by omega, by go_num, by rw [HLEN.out], HST.out, HBD2.out, HB2.out⟩
        case measure => simp [intOf]; omega
      | false =>
        have HIX : Hid (inr 48 57 (t.extract k (k + 1)).data.toList = false) := HIN.out.trans hd
        have hst := rd_let HK.out hd
        have HS1 : Hid _ := hst.1
        have HS2 : Hid _ := hst.2
        have HLEN : Hid ((rdN t.data.toList (k + 1)).length = (rdN t.data.toList k).length + 1) := by show _ = _; rw [hst.2]; simp
        have hnl : (rdN t.data.toList k).length ≤ 1048577 := by omega
        have hnp : 1 ≤ (rdN t.data.toList k).length := by omega
        have hll : (rdL t.data.toList k).length ≤ 1048576 := by omega
        obtain ⟨N, hN⟩ : ∃ N, (rdN t.data.toList k).length = N := ⟨_, rfl⟩
        have hszw := HB.out.size
        rw [hN] at HO hnl hnp HLEN
        have HNN : Hid ((rdN t.data.toList k).length = N) := hN
        clear hst hd hn1 hn2
        go_wp2_with (first | (go_at_call 22; refine (between_eq5 _ 48 57 _ _ HE.out HIX.out).mono ?_; rintro e w' ⟨rfl, hw⟩; have hw2 := hw.symm; clear hw; subst hw2))
        refine (writeByte_any (w.heap.size + 1) (w.heap.size + 1) _ _ _ HBD.out (by rw [Lib.byteCells_length]; omega) (by have := HSZ.out; omega)).mono ?_
        rintro e w3 ⟨rfl, hbd3, hb3, hk3⟩
        have HO3 : Hid (w3.ownsRow (w.heap.size + 1) 3 1 (.slice (some ⟨g, 0, none⟩) N cap) N (intV (rdN t.data.toList k))) := by
          obtain ⟨c1, f1, h1⟩ := builder_block HBD.out
          have := HO.out
          rw [← HNN.out] at this ⊢
          exact owns_others this hk3 h1
        have HBD3 : Hid (Lib.IsBuilder 46 5 (w.heap.size + 1) (w.heap.size + 1) (Lib.byteCells (rdL t.data.toList (k + 1))) w3) := by
          show Lib.IsBuilder _ _ _ _ _ _
          rw [HS1.out, bc_snoc]; exact hbd3
        have HB3 : Hid (Below (w.heap.size + 1) W0 w3) := HB.out.trans hb3
        have hsz3 := HB3.out.size
        clear hbd3 hb3 hk3
        go_wp2_with (at_builtin; refine wpList_append_own _ rfl _ _ 22 rfl (w.heap.size + 1) 3 i0 (.int .i64 0) 1 8 Try.underlying22 hi hz0 hz1 hz2 rfl (by decide) _ _ _ rfl (HO3.out.alloc _) ⟨w3.heap.size, 0, none⟩ 1 1 [.int .i64 0] rfl rfl ?c1 ?c2 ?c3 ?c4 ?c5 ?_)
        case c1 =>
          intro j u hj
          match j, hj with
          | 0, hj => simp at hj; subst hj; simp [Addr.add]
        case c2 => intro u hu; simp at hu; subst hu; rfl
        case c3 => unfold maxLen; omega
        case c4 => omega
        case c5 => have := HSZ.out; simp; omega
        intro v' w4 hown' hgrow _
        obtain ⟨g4, cap4, rfl⟩ : ∃ g cap, v' = .slice (some ⟨g, 0, none⟩) (N + 1) cap := by
          rcases hown'.2 with ⟨_, h0⟩ | ⟨g, cap, cur, hv, _⟩
          · omega
          · exact ⟨g, cap, hv⟩
        have hgw : ∃ c fz, w3.heap[g]? = some (.cells c 3 fz) := by
          rcases HO3.out.2 with ⟨h, _⟩ | ⟨g', c', cur, h, _, hh, _⟩
          · simp at h
          · simp only [Value.slice.injEq, Option.some.injEq, Addr.mk.injEq, and_true, true_and] at h
            obtain ⟨rfl, rfl⟩ := h
            exact ⟨_, _, hh⟩
        have HBD4 : Hid (Lib.IsBuilder 46 5 (w.heap.size + 1) (w.heap.size + 1) (Lib.byteCells (rdL t.data.toList (k + 1))) w4) := by
          obtain ⟨cc, fz, hcc⟩ := hgw
          refine builder_kept HBD3.out g (fun q hq hne => ?_) (fun e => ?_) (fun c f h => ?_)
          · rw [hgrow.block q (by simp; omega) (fun e => hne (by simpa [Value.ownBlock] using e)), Below.heap_alloc w3 _ q hq]
          · obtain ⟨c1, f1, h1⟩ := builder_block HBD3.out
            rw [e, hcc] at h1
            simp at h1
          · rw [hcc] at h
            simp at h
        have HB4 : Hid (Below (w.heap.size + 1) W0 w4) := (HB3.out.alloc (by have := HSZ.out; omega) _).grown hgrow (by have := HSZ.out; simp; omega) (fun q hq => (HO3.out.lt q hq).1)
        have HO4 : Hid (w4.ownsRow (w.heap.size + 1) 3 1 (.slice (some ⟨g4, 0, none⟩) (rdN t.data.toList (k + 1)).length cap4) (rdN t.data.toList (k + 1)).length (intV (rdN t.data.toList (k + 1)))) := by
          show World.ownsRow _ _ _ _ _ _ _
          rw [HLEN.out, HS2.out, intV_app]
          exact hown'
        clear hown' hgrow hgw
        go_wp2
        go_roundw
        case rel => exact ⟨k + 1, g4, cap4, by omega, by go_num, by rw [HLEN.out], HO4.out, HBD4.out, HB4.out⟩
        case measure => simp [intOf]; omega
    · obtain rfl : k = t.size := by omega
      have hsz0 := HSZ.out
      have hszr := HB.out.size
      obtain ⟨N, hN⟩ : ∃ N, (rdN t.data.toList t.size).length = N := ⟨_, rfl⟩
      rw [hN] at HO ⊢
      have HNN : Hid ((rdN t.data.toList t.size).length = N) := hN
      obtain ⟨L, hL⟩ : ∃ L : ByteArray, (⟨(rdL t.data.toList t.size).toArray⟩ : ByteArray) = L := ⟨_, rfl⟩
      have hLs : L.size ≤ 1048576 := by
        rw [← hL]
        show (List.toArray _).size ≤ _
        rw [List.size_toArray]; omega
      have HLS : Hid (L.size ≤ maxLen) := by show _ ≤ _; unfold maxLen; omega
      have HGP : Hid (gpM t = (L, rdN t.data.toList t.size)) := by show _ = _; unfold gpM; rw [hL]
      have HL : Hid _ := hL
      clear hN hL hn1 hn2 hk
      go_wp2_with fail
      refine (Try.Builder_String_any_k _ _ (rdL t.data.toList t.size) _ (Lib.IsBuilderF.of HBD.out) (by omega)).mono ?_
      rintro e w3 ⟨he, hF, hb3, hk3⟩
      rw [HL.out] at he
      subst he
      have HO3 : Hid (w3.ownsRow (w.heap.size + 1) 3 1 (.slice (some ⟨g, 0, none⟩) N cap) N (intV (rdN t.data.toList t.size))) := by
        obtain ⟨c1, f1, h1⟩ := builder_block HBD.out
        have := HO.out
        rw [← HNN.out] at this ⊢
        exact owns_others this hk3 h1
      have HB3 : Hid (Below (w.heap.size + 1) W0 w3) := HB.out.trans hb3
      have HG3 : Hid (w3.heap[w.heap.size]? = some (.cells #[.string ⟨#[]⟩, .slice none 0 0] 27 (0, 0))) := (HB3.out.block w.heap.size (by omega)).trans HG2.out
      have HBW3 : Hid (Below w.heap.size w w3) := HB0.out.trans (HB3.out.mono (by omega))
      have hz3 := HB3.out.size
      clear hF hb3 hk3
      by_cases h0 : t.toList = []
      · have h0' := (toList_nil4 t).1 h0
        have HF : Hid (gpOk t = false) := by show _ = _; unfold gpOk; simp [h0']
        have q0 : w3.cell? ⟨w.heap.size, 0, none⟩ = some (.string ⟨#[]⟩) := by rw [cell_of_row _ _ 0 _ _ _ HG3.out]; rfl
        have q1 : w3.cell? ⟨w.heap.size, 1, none⟩ = some (.slice none 0 0) := by rw [cell_of_row _ _ 1 _ _ _ HG3.out]; rfl
        have f0 := Go.Joins.unfrozen_of_block HG3.out 0
        have f1 := Go.Joins.unfrozen_of_block HG3.out 1
        have hlt3 : w.heap.size < w3.heap.size := by omega
        go_wp2_with fail
        have g0 : (((w3.setCell ⟨w.heap.size, 0, none⟩ (.string ⟨#[]⟩)).setCell ⟨w.heap.size, 1, none⟩ (.slice none 0 0)).alloc (.cells #[.string L, .slice (some ⟨g, 0, none⟩) N cap] 27)).cell? ⟨w.heap.size, 0, none⟩ = some (.string ⟨#[]⟩) := by
          rw [alloc_cellJ _ _ _ _ (by rw [Go.Deep.nblk_setCell, Go.Deep.nblk_setCell]; exact hlt3), World.cell?_setCell_other _ _ _ _ (by simp)]
          exact World.cell?_setCell_same _ _ _ q0
        have g1 : (((w3.setCell ⟨w.heap.size, 0, none⟩ (.string ⟨#[]⟩)).setCell ⟨w.heap.size, 1, none⟩ (.slice none 0 0)).alloc (.cells #[.string L, .slice (some ⟨g, 0, none⟩) N cap] 27)).cell? ⟨w.heap.size, 1, none⟩ = some (.slice none 0 0) := by
          rw [alloc_cellJ _ _ _ _ (by rw [Go.Deep.nblk_setCell, Go.Deep.nblk_setCell]; exact hlt3)]
          exact World.cell?_setCell_same _ _ _ ((World.cell?_setCell_other _ _ _ _ (by simp)).trans q1)
        refine bodyPost_ret (v := .tuple #[.agg #[.string ⟨#[]⟩, .slice none 0 0], .bool false]) (by simp [results, Try.results14, go_sem, g0, g1]) rfl ⟨(⟨#[]⟩, []), .slice none 0 0, by rw [HF.out], by rw [HF.out]; rfl, World.ownsRow_nil .., ?_⟩
        exact (((HBW3.out.setCell (by simp) _).setCell (by simp) _).alloc (by rw [Go.Deep.nblk_setCell, Go.Deep.nblk_setCell]; omega) _)
      · have hp : 1 ≤ t.size := by have := mt (toList_nil4 t).2 h0; omega
        have h0n : t.toList.isEmpty = false := by simpa using h0
        have hblk : Below w3.heap.size w3 (w3.alloc (.cells #[.string L, .slice (some ⟨g, 0, none⟩) N cap] 27)) := (Below.refl _ _).alloc (Nat.le_refl _) _
        have HBL : Hid _ := hblk
        have HPA : Hid (PatAt (w3.alloc (.cells #[.string L, .slice (some ⟨g, 0, none⟩) N cap] 27)) (.agg #[.string L, .slice (some ⟨g, 0, none⟩) N cap]) (L, rdN t.data.toList t.size)) := by
          refine ⟨_, rfl, HLS.out, ?_⟩
          have := HO3.out
          rw [← HNN.out] at this ⊢
          exact (intsAt_owns this).below (by rw [HNN.out]; exact hblk)
        have HOK : Hid (gpOk t = ((ppT (L, rdN t.data.toList t.size)).toList == t.toList)) := by show _ = _; unfold gpOk; rw [HGP.out, decide_eq_true hp]; simp
        clear hblk
        go_wp2_with fail
        refine (implPatternPut_any _ _ (L, rdN t.data.toList t.size) HPA.out).mono ?_
        rintro e w4 ⟨rfl, hb4⟩
        have HB4 : Hid (Below w3.heap.size w3 w4) := HBL.out.trans (hb4.mono (by simp))
        have p0 : w4.cell? ⟨w3.heap.size, 0, none⟩ = some (.string L) := (hb4.cell (p := ⟨w3.heap.size, 0, none⟩) (by simp)).trans (by simp [go_sem])
        have p1 : w4.cell? ⟨w3.heap.size, 1, none⟩ = some (.slice (some ⟨g, 0, none⟩) N cap) := (hb4.cell (p := ⟨w3.heap.size, 1, none⟩) (by simp)).trans (by simp [go_sem])
        have HG4 : Hid (w4.heap[w.heap.size]? = some (.cells #[.string ⟨#[]⟩, .slice none 0 0] 27 (0, 0))) := (HB4.out.block w.heap.size (by omega)).trans HG3.out
        have q0 : w4.cell? ⟨w.heap.size, 0, none⟩ = some (.string ⟨#[]⟩) := by rw [cell_of_row _ _ 0 _ _ _ HG4.out]; rfl
        have q1 : w4.cell? ⟨w.heap.size, 1, none⟩ = some (.slice none 0 0) := by rw [cell_of_row _ _ 1 _ _ _ HG4.out]; rfl
        have f0 := Go.Joins.unfrozen_of_block HG4.out 0
        have f1 := Go.Joins.unfrozen_of_block HG4.out 1
        have hsz4 := HB4.out.size
        have hz43 : w3.heap.size < w4.heap.size := by have := hb4.size; simp at this; omega
        have HBW4 : Hid (Below w.heap.size w w4) := HBW3.out.trans (HB4.out.mono (by omega))
        have HO4 : Hid (w4.ownsRow (w.heap.size + 1) 3 1 (.slice (some ⟨g, 0, none⟩) N cap) N (intV (rdN t.data.toList t.size))) := by
          have := HO3.out
          rw [← HNN.out] at this ⊢
          exact owns_belowI this HB4.out
        obtain ⟨P, hP⟩ : ∃ P, ppT (L, rdN t.data.toList t.size) = P := ⟨_, rfl⟩
        rw [hP] at HOK ⊢
        clear hb4 hP
        cases hPt : (P.toList == t.toList) with
        | false =>
          have HF : Hid (gpOk t = false) := by
            show _ = _
            rw [HOK.out, hPt]
          have g0 : ((w4.setCell ⟨w.heap.size, 0, none⟩ (.string ⟨#[]⟩)).setCell ⟨w.heap.size, 1, none⟩ (.slice none 0 0)).cell? ⟨w.heap.size, 0, none⟩ = some (.string ⟨#[]⟩) := by
            rw [World.cell?_setCell_other _ _ _ _ (by simp)]
            exact World.cell?_setCell_same _ _ _ q0
          have g1 : ((w4.setCell ⟨w.heap.size, 0, none⟩ (.string ⟨#[]⟩)).setCell ⟨w.heap.size, 1, none⟩ (.slice none 0 0)).cell? ⟨w.heap.size, 1, none⟩ = some (.slice none 0 0) :=
            World.cell?_setCell_same _ _ _ ((World.cell?_setCell_other _ _ _ _ (by simp)).trans q1)
          go_wp2_with fail
          refine bodyPost_ret (v := .tuple #[.agg #[.string ⟨#[]⟩, .slice none 0 0], .bool false]) (by simp [results, Try.results14, go_sem, g0, g1]) rfl ⟨(⟨#[]⟩, []), .slice none 0 0, by rw [HF.out], by rw [HF.out]; rfl, World.ownsRow_nil .., ?_⟩
          exact (HBW4.out.setCell (by simp) _).setCell (by simp) _
        | true =>
          have HF : Hid (gpOk t = true) := by
            show _ = _
            rw [HOK.out, hPt]
          have g0 : ((w4.setCell ⟨w.heap.size, 0, none⟩ (.string L)).setCell ⟨w.heap.size, 1, none⟩ (.slice (some ⟨g, 0, none⟩) N cap)).cell? ⟨w.heap.size, 0, none⟩ = some (.string L) := by
            rw [World.cell?_setCell_other _ _ _ _ (by simp)]
            exact World.cell?_setCell_same _ _ _ q0
          have g1 : ((w4.setCell ⟨w.heap.size, 0, none⟩ (.string L)).setCell ⟨w.heap.size, 1, none⟩ (.slice (some ⟨g, 0, none⟩) N cap)).cell? ⟨w.heap.size, 1, none⟩ = some (.slice (some ⟨g, 0, none⟩) N cap) :=
            World.cell?_setCell_same _ _ _ ((World.cell?_setCell_other _ _ _ _ (by simp)).trans q1)
          go_wp2_with fail
          refine bodyPost_ret (v := .tuple #[.agg #[.string L, .slice (some ⟨g, 0, none⟩) N cap], .bool true]) (by simp [results, Try.results14, go_sem, g0, g1]) rfl ⟨(L, rdN t.data.toList t.size), .slice (some ⟨g, 0, none⟩) N cap, by rw [HF.out], by rw [HF.out, HGP.out]; rfl, ?_, ?_⟩
          · show World.ownsRow _ _ _ _ _ (rdN t.data.toList t.size).length _
            rw [HNN.out]
            exact owns_lowJ (owns_setJ (owns_setJ HO4.out (by omega)) (by omega)) (by omega)
          · exact (HBW4.out.setCell (by simp) _).setCell (by simp) _
end Go.Proofs.Ytkcobbeilhphjaa
/-
  spec.PatternGet.
-/
namespace Go.Proofs.Ytkcobbeilhphjaa
open Go.RowKit
set_option linter.unusedVariables false
theorem gp_spec (t : ByteArray) : gpOk t = (patOk (gpM t) && ((putP (gpM t)).toList == t.toList)) := by
  unfold gpOk ppT
  cases h : patOk (gpM t) with
  | false =>
    simp
    intro h1 h2
    have := (toList_nil4 t).1 (by rw [← h2])
    simp [this] at h1
  | true =>
    have h1 := (patOk_parts (s := (gpM t).1) (ns := (gpM t).2) h).1
    have h2 : (gpM t).1.size ≤ t.size := by
      show (List.toArray _).size ≤ _
      rw [List.size_toArray]; exact rdL_len _ _
    simp
    intro _; omega
theorem blk_set {w : World} {b i : Nat} {cs : Array Value} {T : TypeId} {fz : Nat × Nat} {v : Value} (h : w.heap[b]? = some (.cells cs T fz)) : (w.setCell ⟨b, i, none⟩ v).heap[b]? = some (.cells (cs.setIfInBounds i v) T fz) := by
  simp [World.setCell, Array.getElem?_modify, h]
theorem row_ne {w : World} {lo P g n cap : Nat} {xs : List Value} {cs : Array Value} {fz : Nat × Nat} (h : w.ownsRow lo 3 1 (.slice (some ⟨g, 0, none⟩) n cap) n xs) (hp : w.heap[P]? = some (.cells cs 27 fz)) : lo ≤ g ∧ g ≠ P ∧ g < w.heap.size := by
  rcases h.2 with ⟨h, _⟩ | ⟨g', c', cur, h, hl, hh, _⟩
  · simp at h
  · simp only [Value.slice.injEq, Option.some.injEq, Addr.mk.injEq, and_true, true_and] at h
    obtain ⟨rfl, rfl⟩ := h
    refine ⟨hl, fun e => ?_, (Array.getElem?_eq_some_iff.1 hh).1⟩
    rw [e, hp] at hh
    simp at hh
theorem owns_setP {w : World} {lo b i n cap g : Nat} {u : Value} {xs : List Value} (h : w.ownsRow lo 3 1 (.slice (some ⟨g, 0, none⟩) n cap) n xs) (hb : g ≠ b) : (w.setCell ⟨b, i, none⟩ u).ownsRow lo 3 1 (.slice (some ⟨g, 0, none⟩) n cap) n xs := by
  refine ⟨h.1, ?_⟩
  rcases h.2 with h2 | ⟨g', cap', cur, hv, hg, hh, r⟩
  · exact .inl h2
  · have e := hv
    simp only [Value.slice.injEq, Option.some.injEq, Addr.mk.injEq, and_true, true_and] at e
    exact .inr ⟨g', cap', cur, hv, hg, (Below.heap_setCell _ _ _ _ (by show g' ≠ b; rw [← e.1]; exact hb)).trans hh, r⟩
theorem rdO_snoc (t : ByteArray) (k : Nat) (h : k < t.size) (hd : digB t[k] = false) : (⟨(rdL t.data.toList k).toArray⟩ : ByteArray) ++ t.extract k (k + 1) = ⟨(rdL t.data.toList (k + 1)).toArray⟩ := by
  rw [join_list, ext_one5 t k h, (rd_let (at_get t k h) hd).1]
/-- The state of the loop behind k letters. -/
def gsAt (t : ByteArray) (w W0 wr : World) (k : Nat) : Prop :=
  ∃ (g cap : Nat), wr.ownsRow (w.heap.size + 1) 3 1 (.slice (some ⟨g, 0, none⟩) (rdN t.data.toList k).length cap) (rdN t.data.toList k).length (intV (rdN t.data.toList k)) ∧
    wr.heap[w.heap.size + 1 + 1]? = some (.cells #[.string ⟨(rdL t.data.toList k).toArray⟩, .slice (some ⟨g, 0, none⟩) (rdN t.data.toList k).length cap] 27 (0, 0)) ∧ Below (w.heap.size + 1) W0 wr
theorem gsAt.drew {t : ByteArray} {w W0 wr : World} {k : Nat} (h : gsAt t w W0 wr k) : gsAt t w W0 wr.drew k := by
  obtain ⟨g, cap, ho, hp, hb⟩ := h
  exact ⟨g, cap, ho, hp, hb.drew⟩
set_option maxRecDepth 100000 in
set_option maxHeartbeats 4000000 in
theorem specPatternGet_any (t : ByteArray) (w : World) (ht : t.size ≤ 1048576) :
    Calls Try.prog 13 #[.string t] w fun e w' => gpPost t w e w' := by
  obtain ⟨i0, hi, hz0, hz1, hz2⟩ := info_parts Try.info_intJ
  obtain ⟨W0, hW0⟩ : ∃ W0, ((w.alloc (.cells #[.string ⟨#[]⟩, .slice none 0 0] 27)).alloc (.cells #[.int .i64 0] 3)).alloc (.cells #[.string ⟨#[]⟩, .slice (some ⟨w.heap.size + 1, 0, none⟩) 1 1] 27) = W0 := ⟨_, rfl⟩
  have HB0 : Hid (Below w.heap.size w W0) := by show Below _ _ _; rw [← hW0]; exact (((Below.refl _ _).alloc (Nat.le_refl _) _).alloc (by simp) _).alloc (by simp <;> omega) _
  have HSZ : Hid (W0.heap.size = w.heap.size + 3) := by show _ = _; rw [← hW0]; simp
  have HG0 : W0.heap[w.heap.size + 1 + 1]? = some (.cells #[.string ⟨#[]⟩, .slice (some ⟨w.heap.size + 1, 0, none⟩) 1 1] 27 (0, 0)) := by
    rw [← hW0]
    have := heap_alloc_last ((w.alloc (.cells #[.string ⟨#[]⟩, .slice none 0 0] 27)).alloc (.cells #[.int .i64 0] 3)) (.cells #[.string ⟨#[]⟩, .slice (some ⟨w.heap.size + 1, 0, none⟩) 1 1] 27)
    simpa using this
  have HG1 : W0.heap[w.heap.size + 1]? = some (.cells #[.int .i64 0] 3 (0, 0)) := by
    rw [← hW0, Below.heap_alloc _ _ _ (by simp)]
    have := heap_alloc_last (w.alloc (.cells #[.string ⟨#[]⟩, .slice none 0 0] 27)) (.cells #[.int .i64 0] 3)
    simpa using this
  have HG2 : Hid (W0.heap[w.heap.size]? = some (.cells #[.string ⟨#[]⟩, .slice none 0 0] 27 (0, 0))) := by
    show _ = _
    rw [← hW0, Below.heap_alloc _ _ _ (by simp <;> omega), Below.heap_alloc _ _ _ (by simp)]
    exact heap_alloc_last w _
  have S0 : Hid (gsAt t w W0 W0 0) := ⟨w.heap.size + 1, 1, ⟨rfl, .inr ⟨w.heap.size + 1, 1, #[.int .i64 0], rfl, Nat.le_refl _, HG1, Nat.le_refl _, by decide, rfl, rfl⟩⟩, HG0, Below.refl _ _⟩
  clear HG0 HG1
  go_enter Try.func13, Try.ntmps13
  go_wp2
  clear hW0
  go_loopw [5] (fun i wr => ∃ (k : Nat), k ≤ t.size ∧ i = .int .i64 k ∧ gsAt t w W0 wr k) (fun i _ => t.size - (intOf i).toNat)
  case atStart => exact ⟨0, Nat.zero_le _, rfl, S0.out⟩
  case round =>
    obtain ⟨k, hk, rfl, g, cap, ho, hp, hb⟩ := hrel
    have HO : Hid (wr.ownsRow (w.heap.size + 1) 3 1 (.slice (some ⟨g, 0, none⟩) (rdN t.data.toList k).length cap) (rdN t.data.toList k).length (intV (rdN t.data.toList k))) := ho
    have HP : Hid (wr.heap[w.heap.size + 1 + 1]? = some (.cells #[.string ⟨(rdL t.data.toList k).toArray⟩, .slice (some ⟨g, 0, none⟩) (rdN t.data.toList k).length cap] 27 (0, 0))) := hp
    have HB : Hid (Below (w.heap.size + 1) W0 wr) := hb
    have hn1 := rdN_len t.data.toList k
    have hn2 := rdL_len t.data.toList k
    obtain ⟨hg1, hg2, hg3⟩ := row_ne ho hp
    have d0 : wr.cell? ⟨w.heap.size + 1 + 1, 0, none⟩ = some (.string ⟨(rdL t.data.toList k).toArray⟩) := by rw [cell_of_row _ _ 0 _ _ _ hp]; rfl
    have d1 : wr.cell? ⟨w.heap.size + 1 + 1, 1, none⟩ = some (.slice (some ⟨g, 0, none⟩) (rdN t.data.toList k).length cap) := by rw [cell_of_row _ _ 1 _ _ _ hp]; rfl
    have f0 := Go.Joins.unfrozen_of_block hp 0
    have f1 := Go.Joins.unfrozen_of_block hp 1
    have hpz : w.heap.size + 1 + 1 < wr.heap.size := (Array.getElem?_eq_some_iff.1 hp).1
    clear ho hb hp
    by_cases hlt : k < t.size
    · have HK : Hid (t.data.toList[k]? = some t[k]) := at_get t k hlt
      have hk1 : (k : Int) < (t.size : Int) := by omega
      cases hd : digB t[k] with
      | true =>
        have hst := rd_dig HK.out hd
        have HS1 : Hid _ := hst.1
        have HS2 : Hid _ := hst.2
        have hdd : 48 ≤ (t[k].toNat : Int) ∧ (t[k].toNat : Int) ≤ 57 := by unfold digB at hd; simpa using hd
        obtain ⟨hd1, hd2⟩ := hdd
        obtain ⟨p, hp⟩ : ∃ p : Nat, (rdN t.data.toList k).length - 1 = p := ⟨_, rfl⟩
        have hw1 : IntKind.i64.wrap (((rdN t.data.toList k).length : Int) - 1) = (p : Int) := by rw [IntWalk.i64_in _ (by omega)]; omega
        have hpl : (p : Int) < ((rdN t.data.toList k).length : Int) := by omega
        have hw2 : IntKind.u8.wrap ((t[k].toNat : Int) - 48) = (t[k].toNat : Int) - 48 := by simp [IntKind.wrap, IntKind.bits, IntKind.signed]; omega
        obtain ⟨x0, hpg⟩ : ∃ x0, (rdN t.data.toList k)[p]? = some x0 := ⟨_, List.getElem?_eq_getElem (by omega)⟩
        have cp : wr.cell? ⟨g, p, none⟩ = some (.int .i64 x0) := (World.ownsRow.cellAt HO.out p (by omega)).trans (intV_at hpg)
        have fp := World.ownsRow.frozenAt HO.out p
        obtain ⟨hs1, hs2⟩ := World.ownsRow.stored HO.out p (.int .i64 ((t[k].toNat : Int) - 48))
        rw [intV_set] at hs1
        have HN1 : rdN t.data.toList (k + 1) = (rdN t.data.toList k).set p ((t[k].toNat : Int) - 48) := by rw [HS2.out, hp]
        have HNX : Hid (gsAt t w W0 (wr.setCell ⟨g, p, none⟩ (.int .i64 ((t[k].toNat : Int) - 48))) (k + 1)) := by
          refine ⟨g, cap, ?_, ?_, HB.out.setCell hg1 _⟩
          · rw [HN1, List.length_set]; exact hs1
          · rw [HN1, List.length_set, HS1.out, Below.heap_setCell _ _ _ _ (fun e => hg2 e.symm)]; exact HP.out
        clear hs1 hs2 hst hd hpg hn1 hn2 HN1 d0 f0
        go_wp2
        go_region
        go_wp2
        go_roundw
        case rel => exact ⟨k + 1, by omega, by go_num, HNX.out.drew⟩
        case measure => simp [intOf]; omega
      | false =>
        have hst := rd_let HK.out hd
        have HS2 : Hid _ := hst.2
        have HLEN : Hid ((rdN t.data.toList (k + 1)).length = (rdN t.data.toList k).length + 1) := by show _ = _; rw [hst.2]; simp
        have HXZ := rdO_snoc t k hlt hd
        obtain ⟨N, hN⟩ : ∃ N, (rdN t.data.toList k).length = N := ⟨_, rfl⟩
        have hnl : N ≤ 1048577 := by omega
        have hll : (⟨(rdL t.data.toList k).toArray⟩ : ByteArray).size ≤ 1048576 := by
          show (List.toArray _).size ≤ _
          rw [List.size_toArray]; omega
        obtain ⟨X, hX⟩ : ∃ X : ByteArray, (⟨(rdL t.data.toList k).toArray⟩ : ByteArray) = X := ⟨_, rfl⟩
        obtain ⟨Z, hZ⟩ : ∃ Z : ByteArray, (⟨(rdL t.data.toList (k + 1)).toArray⟩ : ByteArray) = Z := ⟨_, rfl⟩
        have HZ : Hid _ := hZ
        rw [hX, hZ] at HXZ
        rw [hX] at HP d0 hll
        rw [hN] at HO HP HLEN d1
        have hE : (t.extract k (k + 1)).size = 1 := by simp; omega
        have r2 : ∀ w : World, (Op.stringOp .add X (t.extract k (k + 1))).run Try.prog w = .ok (.string Z) w := fun w => by rw [run_string_add_sum w _ _ (by omega), HXZ]
        have HO1 : Hid ((wr.setCell ⟨w.heap.size + 1 + 1, 0, none⟩ (.string Z)).drew.ownsRow (w.heap.size + 1) 3 1 (.slice (some ⟨g, 0, none⟩) N cap) N (intV (rdN t.data.toList k))) := owns_setP HO.out hg2
        have HP1 : Hid ((wr.setCell ⟨w.heap.size + 1 + 1, 0, none⟩ (.string Z)).drew.heap[w.heap.size + 1 + 1]? = some (.cells #[.string Z, .slice (some ⟨g, 0, none⟩) N cap] 27 (0, 0))) := blk_set HP.out
        have HB1 : Hid (Below (w.heap.size + 1) W0 (wr.setCell ⟨w.heap.size + 1 + 1, 0, none⟩ (.string Z)).drew) := (HB.out.setCell (by simp) _).drew
        have hszw := HB.out.size
        clear hE HXZ hX hZ hN hst hn1 hn2 hg1 hg3 HO HP HB
        have hdd : (t[k].toNat : Int) < 48 ∨ (48 ≤ (t[k].toNat : Int) ∧ 57 < (t[k].toNat : Int)) := by
          unfold digB at hd
          rcases Int.lt_or_le (t[k].toNat : Int) 48 with h | h
          · exact .inl h
          · refine .inr ⟨h, ?_⟩
            simp only [decide_eq_true h, Bool.true_and, decide_eq_false_iff_not] at hd
            omega
        clear hd
        rcases hdd with h48 | ⟨h48, h57⟩
        all_goals
          go_wp2
          go_region
          obtain ⟨W1, hW1⟩ : ∃ W1, (wr.setCell ⟨w.heap.size + 1 + 1, 0, none⟩ (.string Z)).drew = W1 := ⟨_, rfl⟩
          rw [hW1] at HO1 HP1 HB1 ⊢
          clear hW1
          have e1 : W1.cell? ⟨w.heap.size + 1 + 1, 1, none⟩ = some (.slice (some ⟨g, 0, none⟩) N cap) := by rw [cell_of_row _ _ 1 _ _ _ HP1.out]; rfl
          have hz1' := HB1.out.size
          have hszz := HSZ.out
          go_wp2_with (at_builtin; refine wpList_append_own _ rfl _ _ 22 rfl (w.heap.size + 1) 3 i0 (.int .i64 0) 1 8 Try.underlying22 hi hz0 hz1 hz2 rfl (by decide) _ _ _ rfl (HO1.out.alloc _) ⟨W1.heap.size, 0, none⟩ 1 1 [.int .i64 0] rfl rfl ?c1 ?c2 ?c3 ?c4 ?c5 ?_)
          case c1 =>
            intro j u hj
            match j, hj with
            | 0, hj => simp at hj; subst hj; simp [Addr.add]
          case c2 => intro u hu; simp at hu; subst hu; rfl
          case c3 => unfold maxLen; omega
          case c4 => omega
          case c5 => simp; omega
          intro v' w4 hown' hgrow _
          obtain ⟨g4, cap4, rfl⟩ : ∃ g cap, v' = .slice (some ⟨g, 0, none⟩) (N + 1) cap := by
            rcases hown'.2 with ⟨_, h0⟩ | ⟨g, cap, cur, hv, _⟩
            · omega
            · exact ⟨g, cap, hv⟩
          obtain ⟨q1, q2, q3⟩ := row_ne HO1.out HP1.out
          have hp4 : w4.heap[w.heap.size + 1 + 1]? = some (.cells #[.string Z, .slice (some ⟨g, 0, none⟩) N cap] 27 (0, 0)) := by
            rw [hgrow.block _ (by simp; omega) (fun e => q2 (by have e9 := e; simp [Value.ownBlock] at e9; omega)), Below.heap_alloc W1 _ _ (by omega)]
            exact HP1.out
          have hb4 : Below (w.heap.size + 1) W0 w4 := (HB1.out.alloc (by omega) _).grown hgrow (by simp; omega) (fun q hq => (HO1.out.lt q hq).1)
          obtain ⟨y1, y2, y3⟩ := row_ne hown' hp4
          have e4 : w4.cell? ⟨w.heap.size + 1 + 1, 1, none⟩ = some (.slice (some ⟨g, 0, none⟩) N cap) := by rw [cell_of_row _ _ 1 _ _ _ hp4]; rfl
          have f4 := Go.Joins.unfrozen_of_block hp4 1
          have HNX : Hid (gsAt t w W0 (w4.setCell ⟨w.heap.size + 1 + 1, 1, none⟩ (.slice (some ⟨g4, 0, none⟩) (N + 1) cap4)) (k + 1)) := by
            refine ⟨g4, cap4, ?_, ?_, hb4.setCell (by simp) _⟩
            · rw [HLEN.out, HS2.out, intV_app]; exact owns_setP hown' y2
            · rw [HLEN.out, HZ.out]; exact blk_set hp4
          clear hown' hgrow hb4 e1 q1 q2 q3 y1 y2 y3 f1 d1
          go_wp2
          go_roundw
          case rel => exact ⟨k + 1, by omega, by go_num, HNX.out⟩
          case measure => simp [intOf]; omega
    · obtain rfl : k = t.size := by omega
      have hszz := HSZ.out
      have hszr := HB.out.size
      obtain ⟨N, hN⟩ : ∃ N, (rdN t.data.toList t.size).length = N := ⟨_, rfl⟩
      obtain ⟨L, hL⟩ : ∃ L : ByteArray, (⟨(rdL t.data.toList t.size).toArray⟩ : ByteArray) = L := ⟨_, rfl⟩
      have hLs : L.size ≤ 1048576 := by
        rw [← hL]
        show (List.toArray _).size ≤ _
        rw [List.size_toArray]; omega
      have HGP : Hid (gpM t = (L, rdN t.data.toList t.size)) := by show _ = _; unfold gpM; rw [hL]
      have HPA : Hid (PatAt wr (.agg #[.string L, .slice (some ⟨g, 0, none⟩) N cap]) (L, rdN t.data.toList t.size)) := ⟨_, rfl, by show L.size ≤ _; unfold maxLen; omega, by have := intsAt_owns HO.out; rwa [hN] at this⟩
      rw [hN] at HO HP d1
      rw [hL] at HP d0
      have HNN : Hid ((rdN t.data.toList t.size).length = N) := hN
      have HG : Hid (wr.heap[w.heap.size]? = some (.cells #[.string ⟨#[]⟩, .slice none 0 0] 27 (0, 0))) := (HB.out.block w.heap.size (by omega)).trans HG2.out
      have HBW : Hid (Below w.heap.size w wr) := HB0.out.trans (HB.out.mono (by omega))
      have HOK : Hid (gpOk t = (patOk (L, rdN t.data.toList t.size) && ((putP (L, rdN t.data.toList t.size)).toList == t.toList))) := by show _ = _; rw [gp_spec, HGP.out]
      have hlw : w.heap.size < wr.heap.size := by omega
      clear hN hL hn1 hn2 hk f0 f1
      go_wp2_with fail
      refine (specPatternOk_any _ _ (L, rdN t.data.toList t.size) HPA.out).mono ?_
      rintro e w3 ⟨rfl, hb3⟩
      have HB3 : Hid (Below wr.heap.size wr w3) := hb3
      have HBW3 : Hid (Below w.heap.size w w3) := HBW.out.trans (hb3.mono HBW.out.size)
      have HG3 : Hid (w3.heap[w.heap.size]? = some (.cells #[.string ⟨#[]⟩, .slice none 0 0] 27 (0, 0))) := (hb3.block w.heap.size hlw).trans HG.out
      have hz3 := hb3.size
      have q0 : w3.cell? ⟨w.heap.size, 0, none⟩ = some (.string ⟨#[]⟩) := by rw [cell_of_row _ _ 0 _ _ _ HG3.out]; rfl
      have q1 : w3.cell? ⟨w.heap.size, 1, none⟩ = some (.slice none 0 0) := by rw [cell_of_row _ _ 1 _ _ _ HG3.out]; rfl
      have f0 := Go.Joins.unfrozen_of_block HG3.out 0
      have f1 := Go.Joins.unfrozen_of_block HG3.out 1
      have p0 := (hb3.cell (p := ⟨w.heap.size + 1 + 1, 0, none⟩) hpz).trans d0
      have p1 := (hb3.cell (p := ⟨w.heap.size + 1 + 1, 1, none⟩) hpz).trans d1
      clear hb3
      cases hok : patOk (L, rdN t.data.toList t.size) with
      | false =>
        have HF : Hid (gpOk t = false) := by show _ = _; rw [HOK.out, hok]; rfl
        have g0 : ((w3.setCell ⟨w.heap.size, 0, none⟩ (.string ⟨#[]⟩)).setCell ⟨w.heap.size, 1, none⟩ (.slice none 0 0)).cell? ⟨w.heap.size, 0, none⟩ = some (.string ⟨#[]⟩) := by
          rw [World.cell?_setCell_other _ _ _ _ (by simp)]
          exact World.cell?_setCell_same _ _ _ q0
        have g1 : ((w3.setCell ⟨w.heap.size, 0, none⟩ (.string ⟨#[]⟩)).setCell ⟨w.heap.size, 1, none⟩ (.slice none 0 0)).cell? ⟨w.heap.size, 1, none⟩ = some (.slice none 0 0) :=
          World.cell?_setCell_same _ _ _ ((World.cell?_setCell_other _ _ _ _ (by simp)).trans q1)
        clear hok
        go_wp2_with fail
        refine bodyPost_ret (v := .tuple #[.agg #[.string ⟨#[]⟩, .slice none 0 0], .bool false]) (by simp [results, Try.results13, go_sem, g0, g1]) rfl ⟨(⟨#[]⟩, []), .slice none 0 0, by rw [HF.out], by rw [HF.out]; rfl, World.ownsRow_nil .., ?_⟩
        exact (HBW3.out.setCell (by simp) _).setCell (by simp) _
      | true =>
        have HPA3 : Hid (PatAt w3 (.agg #[.string L, .slice (some ⟨g, 0, none⟩) N cap]) (L, rdN t.data.toList t.size)) := HPA.out.below HB3.out
        have HOKT : Hid (patOk (L, rdN t.data.toList t.size) = true) := hok
        clear hok
        go_wp2_with fail
        refine (l9Put_any _ _ L (rdN t.data.toList t.size) HPA3.out HOKT.out).mono ?_
        rintro e w4 ⟨rfl, hb4⟩
        have HB4 : Hid (Below w3.heap.size w3 w4) := hb4
        have HG4 : Hid (w4.heap[w.heap.size]? = some (.cells #[.string ⟨#[]⟩, .slice none 0 0] 27 (0, 0))) := (hb4.block w.heap.size (by omega)).trans HG3.out
        have HBW4 : Hid (Below w.heap.size w w4) := HBW3.out.trans (hb4.mono HBW3.out.size)
        have hz4 := hb4.size
        have q0' : w4.cell? ⟨w.heap.size, 0, none⟩ = some (.string ⟨#[]⟩) := by rw [cell_of_row _ _ 0 _ _ _ HG4.out]; rfl
        have q1' : w4.cell? ⟨w.heap.size, 1, none⟩ = some (.slice none 0 0) := by rw [cell_of_row _ _ 1 _ _ _ HG4.out]; rfl
        have f0' := Go.Joins.unfrozen_of_block HG4.out 0
        have f1' := Go.Joins.unfrozen_of_block HG4.out 1
        have p0' := (hb4.cell (p := ⟨w.heap.size + 1 + 1, 0, none⟩) (by show w.heap.size + 1 + 1 < _; omega)).trans p0
        have p1' := (hb4.cell (p := ⟨w.heap.size + 1 + 1, 1, none⟩) (by show w.heap.size + 1 + 1 < _; omega)).trans p1
        have HO4 : Hid (w4.ownsRow (w.heap.size + 1) 3 1 (.slice (some ⟨g, 0, none⟩) N cap) N (intV (rdN t.data.toList t.size))) := by
          have := HO.out
          rw [← HNN.out] at this ⊢
          exact owns_belowI (owns_belowI this HB3.out) hb4
        obtain ⟨P, hP⟩ : ∃ P, putP (L, rdN t.data.toList t.size) = P := ⟨_, rfl⟩
        rw [hP] at HOK ⊢
        clear hb4 hP p0 p1 q0 q1 f0 f1 d0 d1
        cases hPt : (P.toList == t.toList) with
        | false =>
          have HF : Hid (gpOk t = false) := by show _ = _; rw [HOK.out, hPt]; simp
          have g0 : ((w4.setCell ⟨w.heap.size, 0, none⟩ (.string ⟨#[]⟩)).setCell ⟨w.heap.size, 1, none⟩ (.slice none 0 0)).cell? ⟨w.heap.size, 0, none⟩ = some (.string ⟨#[]⟩) := by
            rw [World.cell?_setCell_other _ _ _ _ (by simp)]
            exact World.cell?_setCell_same _ _ _ q0'
          have g1 : ((w4.setCell ⟨w.heap.size, 0, none⟩ (.string ⟨#[]⟩)).setCell ⟨w.heap.size, 1, none⟩ (.slice none 0 0)).cell? ⟨w.heap.size, 1, none⟩ = some (.slice none 0 0) :=
            World.cell?_setCell_same _ _ _ ((World.cell?_setCell_other _ _ _ _ (by simp)).trans q1')
          go_wp2_with fail
          refine bodyPost_ret (v := .tuple #[.agg #[.string ⟨#[]⟩, .slice none 0 0], .bool false]) (by simp [results, Try.results13, go_sem, g0, g1]) rfl ⟨(⟨#[]⟩, []), .slice none 0 0, by rw [HF.out], by rw [HF.out]; rfl, World.ownsRow_nil .., ?_⟩
          exact (HBW4.out.setCell (by simp) _).setCell (by simp) _
        | true =>
          have HF : Hid (gpOk t = true) := by show _ = _; rw [HOK.out, hPt, HOKT.out]; rfl
          have g0 : ((w4.setCell ⟨w.heap.size, 0, none⟩ (.string L)).setCell ⟨w.heap.size, 1, none⟩ (.slice (some ⟨g, 0, none⟩) N cap)).cell? ⟨w.heap.size, 0, none⟩ = some (.string L) := by
            rw [World.cell?_setCell_other _ _ _ _ (by simp)]
            exact World.cell?_setCell_same _ _ _ q0'
          have g1 : ((w4.setCell ⟨w.heap.size, 0, none⟩ (.string L)).setCell ⟨w.heap.size, 1, none⟩ (.slice (some ⟨g, 0, none⟩) N cap)).cell? ⟨w.heap.size, 1, none⟩ = some (.slice (some ⟨g, 0, none⟩) N cap) :=
            World.cell?_setCell_same _ _ _ ((World.cell?_setCell_other _ _ _ _ (by simp)).trans q1')
          go_wp2_with fail
          refine bodyPost_ret (v := .tuple #[.agg #[.string L, .slice (some ⟨g, 0, none⟩) N cap], .bool true]) (by simp [results, Try.results13, go_sem, g0, g1]) rfl ⟨(L, rdN t.data.toList t.size), .slice (some ⟨g, 0, none⟩) N cap, by rw [HF.out], by rw [HF.out, HGP.out]; rfl, ?_, ?_⟩
          · show World.ownsRow _ _ _ _ _ (rdN t.data.toList t.size).length _
            rw [HNN.out]
            exact owns_lowJ (owns_setJ (owns_setJ HO4.out (by omega)) (by omega)) (by omega)
          · exact (HBW4.out.setCell (by simp) _).setCell (by simp) _
end Go.Proofs.Ytkcobbeilhphjaa
/-
  Marks in a row of numbers of one's own, and in a pattern's, and what holds them.
-/
namespace Go.Proofs.Ytkcobbeilhphjaa
open Go.RowKit
set_option linter.unusedVariables false
theorem grownI_set (w : World) (g o : Nat) (u : Value) : w.grownBy (w.setCell ⟨g, o, none⟩ u) (some g) :=
  ⟨rfl, rfl, rfl, by rw [Go.Deep.nblk_setCell]; exact Nat.le_refl _, fun k _ hk => Below.heap_setCell _ _ _ k (fun e => hk (by rw [e]))⟩
theorem grownI_trans {a b c : World} {row : Option Nat} (h : a.grownBy b row) (k : b.grownBy c row) : a.grownBy c row :=
  ⟨k.os.trans h.os, k.tape.trans h.tape, k.output.trans h.output, Nat.le_trans h.size k.size, fun i hi hne => (k.block i (Nat.lt_of_lt_of_le hi h.size) hne).trans (h.block i hi hne)⟩
theorem grownI_refl (w : World) (row : Option Nat) : w.grownBy w row := ⟨rfl, rfl, rfl, Nat.le_refl _, fun _ _ _ => rfl⟩
/-- The numbers behind j marks from k on. -/
def mkTo (ns : List Int) (k : Nat) : Nat → List Int
  | 0 => ns
  | j + 1 => (mkTo ns k j).set j ((k + j : Nat) : Int)
theorem mkTo_len (ns : List Int) (k : Nat) : ∀ j, (mkTo ns k j).length = ns.length
  | 0 => rfl
  | j + 1 => by rw [mkTo, List.length_set]; exact mkTo_len ns k j
theorem mkTo_at (ns : List Int) (k : Nat) : ∀ j i, i < j → i < ns.length → (mkTo ns k j)[i]? = some ((k + i : Nat) : Int)
  | 0, i, h, _ => absurd h (by omega)
  | j + 1, i, h, hi => by
    rw [mkTo, List.getElem?_set]
    by_cases e : j = i
    · subst e
      rw [if_pos rfl, if_pos (by rw [mkTo_len]; exact hi)]
    · rw [if_neg e]
      exact mkTo_at ns k j i (by omega) hi
set_option maxHeartbeats 1000000 in
theorem markIntS_any (lo k : Nat) (w : World) (v : Value) (ns : List Int) (h : w.ownsRow lo 3 1 v ns.length (intV ns)) (hn : ns.length ≤ 1048577) (hk : k ≤ 1000000000) :
    Calls Try.prog 28 #[v, .int .i64 k] w fun e w' => e = .returned (.int .i64 ((k + ns.length : Nat) : Int)) ∧ w'.ownsRow lo 3 1 v ns.length (intV (mkTo ns k ns.length)) ∧ w.grownBy w' v.ownBlock := by
  obtain ⟨N, hN⟩ : ∃ N, ns.length = N := ⟨_, rfl⟩
  rw [hN] at h hn ⊢
  have HN : Hid (ns.length = N) := hN
  clear hN
  have HH := h.2
  rcases HH with ⟨rfl, h0⟩ | ⟨g, cap, cur, rfl, hr⟩
  · have HO : Hid (w.ownsRow lo 3 1 (.slice none 0 0) N (intV ns)) := h
    clear h
    subst h0
    go_enter Try.func28, Try.ntmps28
    go_wp2
    go_loopw [1, 5] (fun kv i wr => kv = .int .i64 k ∧ i = .int .i64 0 ∧ wr = w) (fun _ i _ => 0)
    case atStart => exact ⟨rfl, rfl, rfl⟩
    case round =>
      obtain ⟨rfl, rfl, rfl⟩ := hrel
      go_wp2
      go_ret
      exact ⟨by simp, HO.out, grownI_refl _ _⟩
  · have HO : Hid (w.ownsRow lo 3 1 (.slice (some ⟨g, 0, none⟩) N cap) N (intV ns)) := h
    clear h hr
    go_enter Try.func28, Try.ntmps28
    go_wp2
    go_loopw [1, 5] (fun kv i wr => ∃ (j : Nat), j ≤ N ∧ kv = .int .i64 (k + j) ∧ i = .int .i64 j ∧ wr.ownsRow lo 3 1 (.slice (some ⟨g, 0, none⟩) N cap) N (intV (mkTo ns k j)) ∧ w.grownBy wr (some g)) (fun _ i _ => N - (intOf i).toNat)
    case atStart => exact ⟨0, Nat.zero_le _, by simp, rfl, HO.out, grownI_refl _ _⟩
    case round =>
      obtain ⟨j, hj, rfl, rfl, ho, hb⟩ := hrel
      have HB : Hid (w.grownBy wr (some g)) := hb
      have HW : Hid (wr.ownsRow lo 3 1 (.slice (some ⟨g, 0, none⟩) N cap) N (intV (mkTo ns k j))) := ho
      clear hb ho
      by_cases hlt : j < N
      · obtain ⟨x0, hpg⟩ : ∃ x0, (mkTo ns k j)[j]? = some x0 := ⟨_, List.getElem?_eq_getElem (by rw [mkTo_len, HN.out]; exact hlt)⟩
        have cp : wr.cell? ⟨g, j, none⟩ = some (.int .i64 x0) := (World.ownsRow.cellAt HW.out j (by omega)).trans (intV_at hpg)
        have fp := World.ownsRow.frozenAt HW.out j
        obtain ⟨hs1, hs2⟩ := World.ownsRow.stored HW.out j (.int .i64 ((k : Int) + (j : Int)))
        have HS : Hid ((wr.setCell ⟨g, j, none⟩ (.int .i64 ((k : Int) + (j : Int)))).ownsRow lo 3 1 (.slice (some ⟨g, 0, none⟩) N cap) N (intV (mkTo ns k (j + 1)))) := by
          show World.ownsRow _ _ _ _ _ _ _
          rw [mkTo, ← intV_set, Int.natCast_add]; exact hs1
        clear hpg hs1 hs2
        go_wp2
        go_roundw
        case rel => exact ⟨j + 1, by omega, by go_num, by go_num, HS.out, grownI_trans HB.out (grownI_set _ _ _ _)⟩
        case measure => simp [intOf]; omega
      · have hje : j = N := by omega
        subst hje
        go_wp2
        go_ret
        exact ⟨by push_cast; rfl, HW.out, HB.out⟩
set_option maxHeartbeats 1000000 in
theorem heldIntS_any (lo k : Nat) (w : World) (v : Value) (ns : List Int) (h : w.ownsRow lo 3 1 v ns.length (intV (mkTo ns k ns.length))) (hn : ns.length ≤ 1048577) (hk : k ≤ 1000000000) :
    Calls Try.prog 29 #[v, .int .i64 k] w fun e w' => e = .returned (.int .i64 ((k + ns.length : Nat) : Int)) ∧ w' = w := by
  obtain ⟨N, hN⟩ : ∃ N, ns.length = N := ⟨_, rfl⟩
  rw [hN] at h hn ⊢
  have HN : Hid (ns.length = N) := hN
  clear hN
  have HH := h.2
  rcases HH with ⟨rfl, h0⟩ | ⟨g, cap, cur, rfl, hr⟩
  · clear h
    subst h0
    go_enter Try.func29, Try.ntmps29
    go_wp2
    go_loopw [1, 5] (fun kv i wr => kv = .int .i64 k ∧ i = .int .i64 0 ∧ wr = w) (fun _ i _ => 0)
    case atStart => exact ⟨rfl, rfl, rfl⟩
    case round =>
      obtain ⟨rfl, rfl, rfl⟩ := hrel
      go_wp2
      go_ret
      exact ⟨by simp, rfl⟩
  · have HO : Hid (w.ownsRow lo 3 1 (.slice (some ⟨g, 0, none⟩) N cap) N (intV (mkTo ns k N))) := h
    clear h hr
    go_enter Try.func29, Try.ntmps29
    go_wp2
    go_loopw [1, 5] (fun kv i wr => ∃ (j : Nat), j ≤ N ∧ kv = .int .i64 (k + j) ∧ i = .int .i64 j ∧ wr = w) (fun _ i _ => N - (intOf i).toNat)
    case atStart => exact ⟨0, Nat.zero_le _, by simp, rfl, rfl⟩
    case round =>
      obtain ⟨j, hj, rfl, rfl, rfl⟩ := hrel
      by_cases hlt : j < N
      · have cp : wr.cell? ⟨g, j, none⟩ = some (.int .i64 ((k : Int) + (j : Int))) := (World.ownsRow.cellAt HO.out j (by omega)).trans (by rw [intV_at (mkTo_at ns k N j hlt (by rw [HN.out]; exact hlt))]; simp)
        go_wp2
        go_roundw
        case rel => exact ⟨j + 1, by omega, by go_num, by go_num, trivial⟩
        case measure => simp [intOf]; omega
      · have hje : j = N := by omega
        subst hje
        go_wp2
        go_ret
        exact ⟨by push_cast; rfl, rfl⟩
set_option maxHeartbeats 1000000 in
theorem markPattern_any (lo k : Nat) (w : World) (s : ByteArray) (a : Option Addr) (c : Nat) (ns : List Int) (h : w.ownsRow lo 3 1 (.slice a ns.length c) ns.length (intV ns)) (hn : ns.length ≤ 1048577) (hk : k ≤ 1000000000) :
    Calls Try.prog 15 #[.agg #[.string s, .slice a ns.length c], .int .i64 k] w fun e w' => e = .returned (.int .i64 ((k + ns.length : Nat) : Int)) ∧ w'.ownsRow lo 3 1 (.slice a ns.length c) ns.length (intV (mkTo ns k ns.length)) ∧ w.grownBy w' (Value.ownBlock (.slice a ns.length c)) := by
  have HO : Hid (w.ownsRow lo 3 1 (.slice a ns.length c) ns.length (intV ns)) := h
  clear h
  go_enter Try.func15, Try.ntmps15
  go_wp2_with fail
  refine (markIntS_any lo k _ _ ns (HO.out.alloc _) hn hk).mono ?_
  rintro e w1 ⟨rfl, ho, hg⟩
  have H1 : Hid (w1.ownsRow lo 3 1 (.slice a ns.length c) ns.length (intV (mkTo ns k ns.length))) := ho
  have H2 : Hid (w.grownBy w1 (Value.ownBlock (.slice a ns.length c))) := grownI_trans (World.grownBy_alloc _ _ _) hg
  clear ho hg
  go_wp2
  go_ret
  exact ⟨rfl, H1.out, H2.out⟩
set_option maxHeartbeats 1000000 in
theorem heldPattern_any (lo k : Nat) (w : World) (s : ByteArray) (a : Option Addr) (c : Nat) (ns : List Int) (h : w.ownsRow lo 3 1 (.slice a ns.length c) ns.length (intV (mkTo ns k ns.length))) (hn : ns.length ≤ 1048577) (hk : k ≤ 1000000000) :
    Calls Try.prog 16 #[.agg #[.string s, .slice a ns.length c], .int .i64 k] w fun e w' => e = .returned (.int .i64 ((k + ns.length : Nat) : Int)) ∧ Below w.heap.size w w' := by
  have HO : Hid (w.ownsRow lo 3 1 (.slice a ns.length c) ns.length (intV (mkTo ns k ns.length))) := h
  clear h
  go_enter Try.func16, Try.ntmps16
  go_wp2_with fail
  refine (heldIntS_any lo k _ _ ns (HO.out.alloc _) hn hk).mono ?_
  rintro e w1 ⟨rfl, rfl⟩
  have hnn : ¬ (((k + ns.length : Nat) : Int) < 0) := by omega
  go_wp2
  go_ret
  exact ⟨rfl, (Below.refl _ _).alloc (Nat.le_refl _) _⟩
end Go.Proofs.Ytkcobbeilhphjaa
/-
  The law FnExactPatternGet.
-/
namespace Go.Proofs.Ytkcobbeilhphjaa
open Go.RowKit
set_option linter.unusedVariables false
def gpX (t : ByteArray) : PatM := if gpOk t then gpM t else (⟨#[]⟩, [])
theorem gpX_size (t : ByteArray) : (gpX t).1.size ≤ t.size ∧ (gpX t).2.length ≤ t.size + 1 := by
  unfold gpX
  split
  · refine ⟨?_, ?_⟩
    · show (List.toArray _).size ≤ _
      rw [List.size_toArray]; exact rdL_len _ _
    · show (rdN _ _).length ≤ _
      rw [rdN_len]
      have := rdL_len t.data.toList t.size
      omega
  · exact ⟨Nat.zero_le _, Nat.zero_le _⟩
/-- What a call of PatternGet leaves, in letters. -/
def gpL (s : ByteArray) (ns : List Int) (b : Bool) (w : World) (e : Ending) (w' : World) : Prop :=
  ∃ (a : Option Addr) (c : Nat), e = .returned (.tuple #[.agg #[.string s, .slice a ns.length c], .bool b]) ∧ w'.ownsRow w.heap.size 3 1 (.slice a ns.length c) ns.length (intV ns) ∧ Below w.heap.size w w'
theorem gpPost.parts {t : ByteArray} {w w' : World} {e : Ending} (h : gpPost t w e w') : gpL (gpX t).1 (gpX t).2 (gpOk t) w e w' := by
  obtain ⟨x, vn, rfl, hx, ho, hb⟩ := h
  have hx' : x = gpX t := hx
  subst hx'
  rcases ho.2 with ⟨rfl, h0⟩ | ⟨g, cap, cur, rfl, _⟩
  · exact ⟨none, 0, by rw [h0], by rw [h0] at ho ⊢; exact ho, hb⟩
  · exact ⟨some ⟨g, 0, none⟩, cap, rfl, ho, hb⟩
/-- A pattern's own block, and its row. -/
def gpAt (w : World) (b lo : Nat) (s : ByteArray) (a : Option Addr) (c : Nat) (ns xs : List Int) : Prop :=
  w.heap[b]? = some (.cells #[.string s, .slice a ns.length c] 27 (0, 0)) ∧ w.ownsRow lo 3 1 (.slice a ns.length c) ns.length (intV xs)
theorem gpAt.below {w w' : World} {b lo m : Nat} {s : ByteArray} {a : Option Addr} {c : Nat} {ns xs : List Int} (h : gpAt w b lo s a c ns xs) (hb : Below m w w') (h1 : b < m) (h2 : ∀ q, (Value.slice a ns.length c).ownBlock = some q → q < m) : gpAt w' b lo s a c ns xs := by
  refine ⟨(hb.block b h1).trans h.1, h.2.1, ?_⟩
  rcases h.2.2 with h3 | ⟨g, cap, cur, hv, hg, hh, r⟩
  · exact .inl h3
  · exact .inr ⟨g, cap, cur, hv, hg, (hb.block g (h2 g (by rw [hv]; rfl))).trans hh, r⟩
theorem gpAt.kept {w w' : World} {b lo : Nat} {s : ByteArray} {a : Option Addr} {c : Nat} {ns xs : List Int} (h : gpAt w b lo s a c ns xs) (hb : Below w.heap.size w w') : gpAt w' b lo s a c ns xs :=
  h.below hb (Array.getElem?_eq_some_iff.1 h.1).1 (fun q hq => (h.2.lt q hq).2)
theorem gpAt.cells {w : World} {b lo : Nat} {s : ByteArray} {a : Option Addr} {c : Nat} {ns xs : List Int} (h : gpAt w b lo s a c ns xs) : w.cell? ⟨b, 0, none⟩ = some (.string s) ∧ w.cell? ⟨b, 1, none⟩ = some (.slice a ns.length c) :=
  ⟨by rw [cell_of_row _ _ 0 _ _ _ h.1]; rfl, by rw [cell_of_row _ _ 1 _ _ _ h.1]; rfl⟩
theorem gpAt.pat {w : World} {b lo : Nat} {s : ByteArray} {a : Option Addr} {c : Nat} {ns : List Int} (h : gpAt w b lo s a c ns ns) (hs : s.size ≤ maxLen) : PatAt w (.agg #[.string s, .slice a ns.length c]) (s, ns) :=
  ⟨_, rfl, hs, intsAt_owns h.2⟩
/-- A pattern laid down behind a call. -/
theorem gpAt.laid {w : World} {lo : Nat} {s : ByteArray} {a : Option Addr} {c : Nat} {ns : List Int} (h : w.ownsRow lo 3 1 (.slice a ns.length c) ns.length (intV ns)) : gpAt (w.alloc (.cells #[.string s, .slice a ns.length c] 27)) w.heap.size lo s a c ns ns :=
  ⟨heap_alloc_last w _, h.alloc _⟩
set_option maxRecDepth 100000 in
set_option maxHeartbeats 4000000 in
theorem fnExactPatternGet_walk (t : ByteArray) (w : World) (ht0 : t.size ≤ maxLen) :
    Calls Try.prog 5 #[.string t] w fun e w' => e = .returned (.bool true) ∧ Below w.heap.size w w' := by
  unfold maxLen at ht0
  by_cases ht : t.size ≤ 1048576
  · have HSP : Hid (∀ w, Calls Try.prog 13 #[.string t] w fun e w' => gpL (gpX t).1 (gpX t).2 (gpOk t) w e w') := fun w => (specPatternGet_any t w ht).mono fun e w' h => h.parts
    have HIM : Hid (∀ w, Calls Try.prog 14 #[.string t] w fun e w' => gpL (gpX t).1 (gpX t).2 (gpOk t) w e w') := fun w => (implPatternGet_any t w ht).mono fun e w' h => h.parts
    have hsz := gpX_size t
    obtain ⟨s, hs⟩ : ∃ s, (gpX t).1 = s := ⟨_, rfl⟩
    obtain ⟨ns, hns⟩ : ∃ ns, (gpX t).2 = ns := ⟨_, rfl⟩
    obtain ⟨B, hB⟩ : ∃ B, gpOk t = B := ⟨_, rfl⟩
    rw [hs, hns, hB] at HSP HIM
    rw [hs, hns] at hsz
    clear hs hns hB
    have HSM : Hid (s.size ≤ maxLen) := by show _ ≤ _; unfold maxLen; omega
    have HNL : Hid (ns.length ≤ 1048577) := by show _ ≤ _; omega
    clear hsz
    have hgt : ¬ ((t.size : Int) > 1048576) := by omega
    go_enter Try.func5, Try.ntmps5
    go_wp2_with fail
    refine (HSP.out _).mono ?_
    rintro e w1 ⟨a1, c1, rfl, ho1, hb1⟩
    have A1 : Hid (gpAt (w1.alloc (.cells #[.string s, .slice a1 ns.length c1] 27)) w1.heap.size w.heap.size s a1 c1 ns ns) := gpAt.laid ho1
    have B1 : Hid (Below w.heap.size w (w1.alloc (.cells #[.string s, .slice a1 ns.length c1] 27))) := hb1.alloc hb1.size _
    have Z1 : Hid (w1.heap.size < (w1.alloc (.cells #[.string s, .slice a1 ns.length c1] 27)).heap.size) := by show _ < _; simp
    have hz1 := hb1.size
    clear ho1 hb1
    go_wp2_with fail
    obtain ⟨W2, hW2⟩ : ∃ W2, w1.alloc (.cells #[.string s, .slice a1 ns.length c1] 27) = W2 := ⟨_, rfl⟩
    rw [hW2] at A1 B1 Z1 ⊢
    clear hW2
    refine (HIM.out _).mono ?_
    rintro e w3 ⟨a2, c2, rfl, ho3, hb3⟩
    have hz3 := hb3.size
    have hz2 := Z1.out
    have A3 : Hid (gpAt (w3.alloc (.cells #[.string s, .slice a2 ns.length c2] 27)) w1.heap.size w.heap.size s a1 c1 ns ns) := (A1.out.kept hb3).kept ((Below.refl _ _).alloc (Nat.le_refl _) _)
    have R3 : Hid (∀ q, (Value.slice a1 ns.length c1).ownBlock = some q → q < W2.heap.size) := fun q hq => (A1.out.2.lt q hq).2
    have R4 : Hid (∀ q, (Value.slice a2 ns.length c2).ownBlock = some q → W2.heap.size ≤ q ∧ q < w3.heap.size) := fun q hq => ho3.lt q hq
    have G3 : Hid (gpAt (w3.alloc (.cells #[.string s, .slice a2 ns.length c2] 27)) w3.heap.size W2.heap.size s a2 c2 ns ns) := gpAt.laid ho3
    have B3 : Hid (Below w.heap.size w (w3.alloc (.cells #[.string s, .slice a2 ns.length c2] 27))) := (B1.out.trans (hb3.mono B1.out.size)).alloc (by omega) _
    clear ho3 hb3
    have HZ3 : Hid (W2.heap.size ≤ w3.heap.size) := hz3
    obtain ⟨p0, p1⟩ := A3.out.cells
    go_wp2_with fail
    obtain ⟨W4, hW4⟩ : ∃ W4, w3.alloc (.cells #[.string s, .slice a2 ns.length c2] 27) = W4 := ⟨_, rfl⟩
    have hz4 : w3.heap.size < W4.heap.size := by rw [← hW4]; simp
    rw [hW4] at A3 G3 B3 ⊢
    clear hW4 p0 p1
    refine (eqPattern_u _ _ _ (s, ns) (G3.out.pat HSM.out) (A3.out.pat HSM.out)).mono ?_
    rintro e w5 ⟨rfl, hb5⟩
    have A5 : Hid (gpAt w5 w1.heap.size w.heap.size s a1 c1 ns ns) := A3.out.kept hb5
    have G5 : Hid (gpAt w5 w3.heap.size W2.heap.size s a2 c2 ns ns) := G3.out.kept hb5
    have B5 : Hid (Below w.heap.size w w5) := B3.out.trans (hb5.mono B3.out.size)
    obtain ⟨q0, q1⟩ := G5.out.cells
    have hz5 := hb5.size
    clear hb5
    go_wp2_with fail
    refine (markPattern_any W2.heap.size 1 _ s a2 c2 ns G5.out.2 HNL.out (by omega)).mono ?_
    rintro e w6 ⟨rfl, ho6, hg6⟩
    have hb6 : Below W2.heap.size w5 w6 := (Below.refl _ _).grown hg6 (by omega) (fun q hq => (R4.out q hq).1)
    have A6 : Hid (gpAt w6 w1.heap.size w.heap.size s a1 c1 ns ns) := A5.out.below hb6 hz2 R3.out
    have G6 : Hid (gpAt w6 w3.heap.size W2.heap.size s a2 c2 ns (mkTo ns 1 ns.length)) := ⟨(hg6.block _ (by omega) (fun e => by have := R4.out _ e.symm; omega)).trans G5.out.1, ho6⟩
    have B6 : Hid (Below w.heap.size w w6) := B5.out.trans (hb6.mono B1.out.size)
    have hz6 := hb6.size
    have hzg : w5.heap.size ≤ w6.heap.size := hg6.size
    clear ho6 hg6 hb6 q0 q1
    obtain ⟨q0, q1⟩ := G6.out.cells
    go_wp2_with fail
    refine (heldPattern_any W2.heap.size 1 _ s a2 c2 ns G6.out.2 HNL.out (by omega)).mono ?_
    rintro e w7 ⟨rfl, hb7⟩
    have A7 : Hid (gpAt w7 w1.heap.size w.heap.size s a1 c1 ns ns) := A6.out.kept hb7
    have G7 : Hid (gpAt w7 w3.heap.size W2.heap.size s a2 c2 ns (mkTo ns 1 ns.length)) := G6.out.kept hb7
    have B7 : Hid (Below w.heap.size w w7) := B6.out.trans (hb7.mono B6.out.size)
    clear hb7 q0 q1
    have hnn : ¬ (((1 + ns.length : Nat) : Int) < 0) := by omega
    go_wp2_with fail
    refine (HIM.out _).mono ?_
    rintro e w8 ⟨a3, c3, rfl, ho8, hb8⟩
    have A9 : Hid (gpAt (w8.alloc (.cells #[.string s, .slice a3 ns.length c3] 27)) w1.heap.size w.heap.size s a1 c1 ns ns) := (A7.out.kept hb8).kept ((Below.refl _ _).alloc (Nat.le_refl _) _)
    have G9 : Hid (gpAt (w8.alloc (.cells #[.string s, .slice a3 ns.length c3] 27)) w3.heap.size W2.heap.size s a2 c2 ns (mkTo ns 1 ns.length)) := (G7.out.kept hb8).kept ((Below.refl _ _).alloc (Nat.le_refl _) _)
    have H9 : Hid (gpAt (w8.alloc (.cells #[.string s, .slice a3 ns.length c3] 27)) w8.heap.size w7.heap.size s a3 c3 ns ns) := gpAt.laid ho8
    have B9 : Hid (Below w.heap.size w (w8.alloc (.cells #[.string s, .slice a3 ns.length c3] 27))) := (B7.out.trans (hb8.mono B7.out.size)).alloc (Nat.le_trans B7.out.size hb8.size) _
    clear ho8 hb8
    obtain ⟨p0, p1⟩ := A9.out.cells
    go_wp2_with fail
    obtain ⟨W9, hW9⟩ : ∃ W9, w8.alloc (.cells #[.string s, .slice a3 ns.length c3] 27) = W9 := ⟨_, rfl⟩
    rw [hW9] at A9 G9 H9 B9 ⊢
    clear hW9 p0 p1
    refine (eqPattern_u _ _ _ (s, ns) (H9.out.pat HSM.out) (A9.out.pat HSM.out)).mono ?_
    rintro e w10 ⟨rfl, hb10⟩
    have G10 : Hid (gpAt w10 w3.heap.size W2.heap.size s a2 c2 ns (mkTo ns 1 ns.length)) := G9.out.kept hb10
    have B10 : Hid (Below w.heap.size w w10) := B9.out.trans (hb10.mono B9.out.size)
    clear hb10
    obtain ⟨q0, q1⟩ := G10.out.cells
    go_wp2_with fail
    refine (heldPattern_any W2.heap.size 1 _ s a2 c2 ns G10.out.2 HNL.out (by omega)).mono ?_
    rintro e w11 ⟨rfl, hb11⟩
    have B11 : Hid (Below w.heap.size w w11) := B10.out.trans (hb11.mono B10.out.size)
    clear hb11 q0 q1
    go_wp2_with fail
    go_ret
    exact ⟨rfl, B11.out⟩
  · have hgt : (t.size : Int) > 1048576 := by omega
    go_enter Try.func5, Try.ntmps5
    go_wp2_with fail
    go_ret
    exact ⟨rfl, Below.refl _ _⟩
end Go.Proofs.Ytkcobbeilhphjaa
