/-
  The end of a sum: sizes, bytes of words.
-/
import Derived.Test.YtdjpeickokoclaaDoorGW438
import Derived.Test.YtdjpeickokoclaaDoorW212
import Derived.Test.YtdjpeickokoclaaDoorW80
import Derived.Test.YtdjpeickokoclaaDoorW343
namespace Go.Proofs.YtdjpeickokoclaaDoor
open Go.RowKit
set_option linter.unusedVariables false
theorem pushT_mod (K : Nat → Wd) : ∀ (l : List UInt8) (v : Wds) (f : List UInt8), f.length < 64 → (pushT K (v, f) l).2.length = (f.length + l.length) % 64
  | [], v, f, h => by show f.length = _; simp; omega
  | b :: l, v, f, h => by
    show (pushT K (pushB K (v, f) b) l).2.length = _
    by_cases e : f.length + 1 = 64
    · rw [show pushB K (v, f) b = (mixT K v (f ++ [b]), []) from if_pos e, pushT_mod K l _ [] (by simp)]
      simp only [List.length_cons, List.length_nil]
      omega
    · rw [show pushB K (v, f) b = (v, f ++ [b]) from if_neg e, pushT_mod K l v (f ++ [b]) (by simp; omega)]
      simp only [List.length_cons, List.length_append, List.length_nil]
      omega
def wbL (a : Wd) : List UInt8 := (wb a).data.toList
theorem wbL_len (a : Wd) : (wbL a).length = 4 := rfl
theorem wb_size (a : Wd) : (wb a).size = 4 := rfl
/-- The bytes of words, one behind the other. -/
def digestT (L : List Wd) : List UInt8 := L.flatMap wbL
theorem u8_mod (n : Nat) : UInt8.ofNat (n % 256) = UInt8.ofNat n := by
  apply UInt8.toNat_inj.1
  simp
theorem wbL_nat (n : Nat) (h : n < 4294967296) : wbL (BitVec.ofNat 32 n) = [UInt8.ofNat (n >>> 24), UInt8.ofNat (n >>> 16), UInt8.ofNat (n >>> 8), UInt8.ofNat n] := by
  have h1 : ∀ k, (wn (BitVec.ofNat 32 n >>> k) % 256).toNat = (n >>> k) % 256 := fun k => by
    unfold wn
    rw [BitVec.toNat_ushiftRight, BitVec.toNat_ofNat, Nat.mod_eq_of_lt h]
    omega
  have h0 : (wn (BitVec.ofNat 32 n) % 256).toNat = n % 256 := by
    unfold wn
    rw [BitVec.toNat_ofNat, Nat.mod_eq_of_lt h]
    omega
  unfold wbL wb
  rw [strOfNums_data]
  unfold nums4
  simp only [List.map_cons, List.map_nil, h1, h0, u8_mod]
theorem size8_wb (n : Nat) (h : n < 4294967296) : size8 n = wbL 0#32 ++ wbL (BitVec.ofNat 32 n) := by
  have hz : ∀ k, 32 ≤ k → n >>> k = 0 := fun k hk => by
    rw [Nat.shiftRight_eq_div_pow]
    have h2 : (2 : Nat) ^ 32 ≤ 2 ^ k := Nat.pow_le_pow_right (by decide) hk
    exact Nat.div_eq_of_lt (Nat.lt_of_lt_of_le h h2)
  rw [wbL_nat n h]
  unfold size8
  simp only [List.map_cons, List.map_nil, hz 56 (by omega), hz 48 (by omega), hz 40 (by omega), hz 32 (by omega), Nat.shiftRight_zero]
  rfl
/-- How many bytes of 0 are lacking. -/
def lack (w : World) (b : Nat) : Nat := match w.cell? ⟨b, 72, none⟩ with
  | some (.int _ n) => (120 - n.toNat) % 64
  | _ => 0
/- Of the type 77. -/
theorem lack_at {w : World} {b : Nat} {s : Wds × List UInt8} {z : Int} (h : SumIs w b s z) : lack w b = (120 - s.2.length) % 64 := by
  obtain ⟨bl, h1, _⟩ := h.row
  unfold lack
  rw [h1.cellN]
  simp
end Go.Proofs.YtdjpeickokoclaaDoor
/-
  The end of a sum, its walk: (*impl.sum).end.
-/
namespace Go.Proofs.YtdjpeickokoclaaDoor
open Go.RowKit
set_option linter.unusedVariables false
theorem ret_str444 {a b : ByteArray} (h : a = b) : Ending.returned (.string a) = .returned (.string b) := by rw [h]
set_option maxRecDepth 100000 in
set_option maxHeartbeats 8000000 in
theorem end_any (w : World) (b : Nat) (v : Wds) (t : List UInt8) (h : SumIs w b (pushT kAt (v, []) t) t.length) (hR : roundTab w) (hgb : 1 < b) (ht : t.length ≤ 8000000) :
    Calls Tryd.prog 45 #[.pointer (some ⟨b, 0, none⟩)] w fun e w' => e = .returned (.string ⟨(digestT (bytesOf (sumW kAt v t))).toArray⟩) ∧ Below b w w' := by
  have HR : Hid (roundTab w) := hR
  have HS : Hid (SumIs w b (pushT kAt (v, []) t) t.length) := h
  have HU8 : Hid (Tryd.prog.underlying 71 = _) := Tryd.underlying71
  have HS8 : Hid ((Tryd.prog.info? 71).map (·.size) = some 8) := Tryd.size_eight
  obtain ⟨a2, ha2⟩ : ∃ a2, BitVec.ofNat 32 (t.length * 8) = a2 := ⟨_, rfl⟩
  have hwn : wn a2 = (t.length : Int) * 8 := by
    rw [← ha2]
    unfold wn
    rw [BitVec.toNat_ofNat, Nat.mod_eq_of_lt (by omega)]
    omega
  have hr1 : IntKind.u64.wrap ((t.length : Int) * 8) = wn a2 := by rw [hwn]; simp [IntKind.wrap, IntKind.signed, IntKind.bits]; omega
  have hr2 : wn a2 / 4294967296 = 0 := by rw [hwn]; omega
  have hr3 := wn_wrap a2
  have hr4 : IntKind.u32.wrap 0 = 0 := by decide
  have HZ8 : Hid (size8 (t.length * 8) = wbL 0#32 ++ wbL a2) := by show _ = _; rw [size8_wb _ (by omega), ha2]
  have WB0 : ∀ w, Calls Tryd.prog 56 #[.int .u32 0] w fun e w' => e = .returned (.string (wb 0#32)) ∧ Below w.heap.size w w' := fun w => wordBytes_any 0#32 w
  have HWB0 : Hid (∀ w, Calls Tryd.prog 56 #[.int .u32 0] w fun e w' => e = .returned (.string (wb 0#32)) ∧ Below w.heap.size w w') := WB0
  have hbw : b < w.heap.size := h.lt
  obtain ⟨bl, hs1, hs2⟩ := h.row
  have c73 : w.cell? ⟨b, 73, none⟩ = some (.int .u64 (t.length : Int)) := hs1.cellZ
  clear hs1 hs2 h hR hwn ha2 WB0
  go_enter Tryd.func45, Tryd.ntmps45
  go_wp2_with fail
  refine (write_any _ b _ t.length ⟨#[128]⟩ HS.out HR.out hgb (by decide) (by omega) (by omega)).mono ?_
  rintro e w1 ⟨rfl, hs1, hb1⟩
  have H1 : Hid (SumIs w1 b (pushT kAt (v, []) (t ++ [128])) (t.length + 1)) := by
    show SumIs _ _ _ _
    rw [pushT_append]
    exact hs1
  have L1 : Hid (Below b w w1) := hb1
  clear hs1 hb1 c73 HS
  go_wp2_with fail
  go_loopw [] (fun wr => ∃ (k : Nat), k ≤ zerosN t.length ∧ SumIs wr b (pushT kAt (v, []) (t ++ [128] ++ List.replicate k 0)) (t.length + 1 + k) ∧ Below b w wr) (fun wr => lack wr b)
  case atStart => exact ⟨0, Nat.zero_le _, by simpa using H1.out, L1.out⟩
  case round =>
    clear H1 L1
    obtain ⟨k, hk, hs, hl⟩ := hrel
    have H : Hid (SumIs wr b (pushT kAt (v, []) (t ++ [128] ++ List.replicate k 0)) (t.length + 1 + k)) := hs
    have L : Hid (Below b w wr) := hl
    obtain ⟨n, hn⟩ : ∃ n, (pushT kAt (v, []) (t ++ [128] ++ List.replicate k 0)).2.length = n := ⟨_, rfl⟩
    have hnm : n = (t.length + 1 + k) % 64 := by
      rw [← hn, pushT_mod kAt _ v [] (by simp)]
      simp
      rw [show t.length + (k + 1) = t.length + 1 + k by omega]
    have HN : Hid ((pushT kAt (v, []) (t ++ [128] ++ List.replicate k 0)).2.length = n) := hn
    have c72 : wr.cell? ⟨b, 72, none⟩ = some (.int .i64 (n : Int)) := by
      obtain ⟨bl, h1, _⟩ := hs.row
      rw [← hn]
      exact h1.cellN
    clear hs hl hn
    by_cases h56 : n = 56
    · have hkz : k = zerosN t.length := by unfold zerosN at hk ⊢; omega
      rw [h56] at c72
      have e56 : (((56 : Nat) : Int)) = 56 := rfl
      rw [e56] at c72
      obtain ⟨wq, hwq⟩ : ∃ x, x = wr := ⟨_, rfl⟩
      subst hwq
      rw [hkz] at H
      clear h56 hnm HN
      go_wp2_with fail
      refine (HWB0.out _).mono ?_
      rintro e w3 ⟨rfl, hb3⟩
      have H3 := H.out.below hb3
      have L3 : Hid (Below b w w3) := L.out.trans (hb3.mono (Nat.le_of_lt H.out.lt))
      have HH3 : Hid (SumIs w3 b (pushT kAt (v, []) (t ++ [128] ++ List.replicate (zerosN t.length) 0)) (t.length + 1 + (zerosN t.length))) := H3
      clear hb3 H3 c72
      go_wp2_with fail
      refine (wordBytes_any a2 _).mono ?_
      rintro e w4 ⟨rfl, hb4⟩
      have H4 := HH3.out.below hb4
      have L4 : Hid (Below b w w4) := L3.out.trans (hb4.mono (Nat.le_of_lt HH3.out.lt))
      have HH4 : Hid (SumIs w4 b (pushT kAt (v, []) (t ++ [128] ++ List.replicate (zerosN t.length) 0)) (t.length + 1 + (zerosN t.length))) := H4
      clear hb4 H4 HH3 L3
      have hzn : zerosN t.length ≤ 63 := by unfold zerosN; omega
      go_wp2_with fail
      refine (write_any _ b _ _ (wb 0#32 ++ wb a2) HH4.out (HR.out.from hgb L4.out) hgb (by rw [ByteArray.size_append, wb_size, wb_size]; omega) (by omega) (by omega)).mono ?_
      rintro e w5 ⟨rfl, hs5, hb5⟩
      have L5 : Hid (Below b w w5) := L4.out.trans hb5
      have hpad : t ++ [128] ++ List.replicate (zerosN t.length) 0 ++ (wb 0#32 ++ wb a2).data.toList = padT t := by
        unfold padT
        rw [HZ8.out]
        simp [wbL]
      rw [← pushT_append, hpad, sumW_push] at hs5
      obtain ⟨bl5, hs6, _⟩ := hs5.row
      obtain ⟨D, hD⟩ : ∃ D, bytesOf (sumW kAt v t) = D := ⟨_, rfl⟩
      have hDl : D.length = 8 := by rw [← hD]; rfl
      have HD : Hid (bytesOf (sumW kAt v t) = D) := hD
      obtain ⟨W1, hW1⟩ : ∃ W1, w5.alloc (.cells #[.pointer none, .slice none 0 0] 82) = W1 := ⟨_, rfl⟩
      have B1 : Hid (Below w5.heap.size w5 W1) := by show Below _ _ _; rw [← hW1]; exact (Below.refl _ _).alloc (Nat.le_refl _) _
      have I1 : Hid (Lib.IsBuilder 82 5 w5.heap.size w5.heap.size (Lib.byteCells (digestT (D.take 0))) W1) := by show Lib.IsBuilder _ _ _ _ _ _; rw [← hW1]; exact .inl ⟨Nat.le_refl _, .slice none 0 0, Go.Deep.blk_alloc_new _ _, World.ownsRow_nil .., by simp [Value.ownBlock]⟩
      have R1 : Hid (W1.rangeAt b 0 (wordCells D)) := by show World.rangeAt _ _ _ _; rw [← hD]; exact (hs6.below B1.out).rangeW
      obtain ⟨wv, hwv⟩ : ∃ x, wordCells D = x := ⟨_, rfl⟩
      have HWV : Hid (∀ i, i < 8 → wv.toArray[i]? = some (.int .u32 (wn (wAt D i)))) := fun i hi => by rw [← hwv, List.getElem?_toArray]; exact wordCells_at (by omega)
      have HSV : Hid ((Tryd.prog.info? 71).map (·.size) = some wv.length) := by rw [← hwv, wordCells_len, hDl]; exact HS8.out
      have hb5z : b < w5.heap.size := hs6.lt
      rw [hwv] at R1
      clear hs5 hs6 hpad hD hwv hb5
      go_wp2_with (first | (rw [hW1]; clear hW1) | (refine wpList_load_mid rfl 71 _ rfl b 0 rfl wv _ R1.out HU8.out rfl HSV.out ?_))
      go_loopw [36] (fun i wr => ∃ (q : Nat), q ≤ 8 ∧ i = .int .i64 q ∧ Lib.IsBuilder 82 5 w5.heap.size w5.heap.size (Lib.byteCells (digestT (D.take q))) wr ∧ Below w5.heap.size w5 wr) (fun i _ => 8 - (intOf i).toNat)
      case atStart => exact ⟨0, Nat.zero_le _, rfl, I1.out, B1.out⟩
      case round =>
        clear I1 B1 R1
        obtain ⟨q, hq, rfl, hbd, hbl⟩ := hrel
        have HBD : Hid (Lib.IsBuilder 82 5 w5.heap.size w5.heap.size (Lib.byteCells (digestT (D.take q))) wr) := hbd
        have HBL : Hid (Below w5.heap.size w5 wr) := hbl
        clear hbd hbl
        have hdl : (digestT (D.take q)).length ≤ 32 := by
          have h1 : ∀ l : List Wd, (digestT l).length = 4 * l.length := fun l => by
            induction l with
            | nil => rfl
            | cons a l ih => show (wbL a ++ digestT l).length = _; rw [List.length_append, ih, wbL_len, List.length_cons]; omega
          rw [h1, List.length_take]
          omega
        by_cases hq8 : q < 8
        · have hq8' : (q : Int) < 8 := by omega
          obtain ⟨x, hx⟩ : ∃ x, wAt D q = x := ⟨_, rfl⟩
          have hwx : wv.toArray[q]? = some (.int .u32 (wn x)) := by rw [← hx]; exact HWV.out q hq8
          have hix := fun w' => run_index_words 71 8 Tryd.underlying71 w' wv.toArray q hq8 _ hwx
          have HST : Hid (digestT (D.take (q + 1)) = digestT (D.take q) ++ wbL x) := by
            show _ = _
            rw [List.take_add_one, List.getElem?_eq_getElem (by omega)]
            have e : D[q]'(by omega) = x := by rw [← hx]; unfold wAt; rw [List.getD_eq_getElem?_getD, List.getElem?_eq_getElem (by omega)]; rfl
            rw [e]
            unfold digestT
            simp
          clear hx hwx
          go_wp2_with fail
          refine (wordBytes_any x _).mono ?_
          rintro e w6 ⟨rfl, hb6⟩
          have HBD6 : Hid (Lib.IsBuilder 82 5 w5.heap.size w5.heap.size (Lib.byteCells (digestT (D.take q))) w6) := builder_below HBD.out hb6
          have HBL6 : Hid (Below w5.heap.size w5 w6) := HBL.out.trans (hb6.mono HBL.out.size)
          clear hb6
          go_wp2_with fail
          refine (writeString_any w5.heap.size w5.heap.size _ (wb x) _ HBD6.out (by rw [Lib.byteCells_length]; omega) (by rw [wb_size]; omega) HBL6.out.size).mono ?_
          rintro e w7 ⟨⟨vr, rfl⟩, hbd7, hbl7, _⟩
          have HBD7 : Hid (Lib.IsBuilder 82 5 w5.heap.size w5.heap.size (Lib.byteCells (digestT (D.take (q + 1)))) w7) := by
            show Lib.IsBuilder _ _ _ _ _ _
            rw [HST.out, Lib.byteCells_append]
            exact hbd7
          have HBL7 : Hid (Below w5.heap.size w5 w7) := HBL6.out.trans (hbl7.mono (Nat.le_refl _))
          clear hbd7 hbl7
          go_wp2
          go_roundw
          case rel => exact ⟨q + 1, by omega, by go_num, HBD7.out, HBL7.out⟩
          case measure => simp [intOf]; omega
        · have hqe : q = 8 := by omega
          have HBD8 : Hid (Lib.IsBuilder 82 5 w5.heap.size w5.heap.size (Lib.byteCells (digestT D)) wr) := by
            have h1 := HBD.out
            rw [hqe, List.take_of_length_le (by omega)] at h1
            exact h1
          have hqn : ¬ ((q : Int) < 8) := by omega
          clear hqe HBD
          go_wp2_with fail
          refine (Tryd.Builder_String_any _ _ (digestT D) _ HBD8.out HBL.out.size).mono ?_
          rintro e w8 ⟨rfl, hb8⟩
          have L8 : Hid (Below b w w8) := (L5.out.trans (HBL.out.mono (Nat.le_of_lt hb5z))).trans (hb8.mono (Nat.le_of_lt hb5z))
          clear hb8
          go_wp2
          go_ret
          exact ⟨ret_str444 (by rw [HD.out]), L8.out⟩
    · have h56' : ¬ ((n : Int) = 56) := by omega
      have hkl : k < zerosN t.length := by unfold zerosN at hk ⊢; omega
      have hzn : zerosN t.length ≤ 63 := by unfold zerosN; omega
      go_wp2_with fail
      refine (write_any _ b _ _ ⟨#[0]⟩ H.out (HR.out.from hgb L.out) hgb (by decide) (by omega) (by omega)).mono ?_
      rintro e w3 ⟨rfl, hs3, hb3⟩
      have H3 : Hid (SumIs w3 b (pushT kAt (v, []) (t ++ [128] ++ List.replicate (k + 1) 0)) (t.length + 1 + ((k + 1 : Nat) : Int))) := by
        show SumIs _ _ _ _
        rw [List.replicate_succ', ← List.append_assoc, pushT_append, show (t.length : Int) + 1 + ((k + 1 : Nat) : Int) = (t.length : Int) + 1 + (k : Int) + 1 by omega]
        exact hs3
      have L3 : Hid (Below b w w3) := L.out.trans hb3
      have hl1 : lack wr b = (120 - n) % 64 := by rw [lack_at H.out, HN.out]
      have hl3 : lack w3 b = (120 - (n + 1) % 64) % 64 := by
        rw [lack_at H3.out, pushT_mod kAt _ v [] (by simp)]
        simp
        omega
      have hnl : n < 64 := by omega
      clear hs3 hb3
      go_wp2
      go_roundw
      case rel => exact ⟨k + 1, by omega, H3.out, L3.out⟩
      case measure => rw [hl1, hl3]; omega
end Go.Proofs.YtdjpeickokoclaaDoor
/-
  The sum of pieces: impl.sumOf.
-/
namespace Go.Proofs.YtdjpeickokoclaaDoor
open Go.RowKit
set_option linter.unusedVariables false
def sumZ : Array Value := (sumC (bytesOf iv0) (List.replicate 64 0) 0 0).toArray
def joinP (ps : List ByteArray) : List UInt8 := ps.flatMap fun p => p.data.toList
theorem joinP_len : ∀ (ps : List ByteArray), (∀ x ∈ ps, x.size ≤ 2000000) → (joinP ps).length ≤ 2000000 * ps.length
  | [], _ => Nat.le_refl _
  | p :: ps, h => by
    have h1 := joinP_len ps (fun x hx => h x (List.mem_cons_of_mem _ hx))
    have h2 := h p (List.mem_cons_self ..)
    have h3 : p.data.toList.length = p.size := rfl
    have h4 : (joinP (p :: ps)).length = p.data.toList.length + (joinP ps).length := by unfold joinP; rw [List.flatMap_cons, List.length_append]
    rw [h4, List.length_cons]
    omega
def zer74 : Array Value := #[.int .u32 0, .int .u32 0, .int .u32 0, .int .u32 0, .int .u32 0, .int .u32 0, .int .u32 0, .int .u32 0, .int .u8 0, .int .u8 0, .int .u8 0, .int .u8 0, .int .u8 0, .int .u8 0, .int .u8 0, .int .u8 0, .int .u8 0, .int .u8 0, .int .u8 0, .int .u8 0, .int .u8 0, .int .u8 0, .int .u8 0, .int .u8 0, .int .u8 0, .int .u8 0, .int .u8 0, .int .u8 0, .int .u8 0, .int .u8 0, .int .u8 0, .int .u8 0, .int .u8 0, .int .u8 0, .int .u8 0, .int .u8 0, .int .u8 0, .int .u8 0, .int .u8 0, .int .u8 0, .int .u8 0, .int .u8 0, .int .u8 0, .int .u8 0, .int .u8 0, .int .u8 0, .int .u8 0, .int .u8 0, .int .u8 0, .int .u8 0, .int .u8 0, .int .u8 0, .int .u8 0, .int .u8 0, .int .u8 0, .int .u8 0, .int .u8 0, .int .u8 0, .int .u8 0, .int .u8 0, .int .u8 0, .int .u8 0, .int .u8 0, .int .u8 0, .int .u8 0, .int .u8 0, .int .u8 0, .int .u8 0, .int .u8 0, .int .u8 0, .int .u8 0, .int .u8 0, .int .i64 0, .int .u64 0]
theorem Tryd.info_sum : (Tryd.prog.info? 77).map (fun i => (i.zero, i.size)) = some (some (.agg zer74), 74) := by kernel_rfl
theorem run_zero_sum (w : World) : (zeroValue 77).run Tryd.prog w = .ok (.agg zer74) w := by
  obtain ⟨i, hi, hz⟩ := Option.map_eq_some_iff.1 Tryd.info_sum
  have h0 : i.zero = some (.agg zer74) := congrArg Prod.fst hz
  simp [zeroValue, typeInfo, hi, h0, Sem.run_bind]
theorem Tryd.size_sum : (Tryd.prog.info? 77).map (·.size) = some 74 := by kernel_rfl
set_option maxRecDepth 100000 in
set_option maxHeartbeats 8000000 in
theorem sumOf_any (w : World) (P n cap : Nat) (ps : List ByteArray) (hn : ps.length = n) (hc : ∀ i x, ps[i]? = some x → w.cell? ⟨P, i, none⟩ = some (.string x)) (hP : P < w.heap.size) (hn8 : n ≤ 4) (hs : ∀ x ∈ ps, x.size ≤ 2000000) (hR : roundTab w) (hF : firstTab w) :
    Calls Tryd.prog 30 #[.slice (some ⟨P, 0, none⟩) n cap] w fun e w' => e = .returned (.string ⟨(digestT (bytesOf (sumW kAt iv0 (joinP ps)))).toArray⟩) ∧ Below w.heap.size w w' := by
  have HR : Hid (roundTab w) := hR
  have HF : Hid (firstTab w) := hF
  have HC : Hid (∀ i x, ps[i]? = some x → w.cell? ⟨P, i, none⟩ = some (.string x)) := hc
  have HU8 : Hid (Tryd.prog.underlying 71 = _) := Tryd.underlying71
  have HS8 : Hid ((Tryd.prog.info? 71).map (·.size) = some 8) := Tryd.size_eight
  have HSS : Hid ((Tryd.prog.info? 77).map (·.size) = some 74) := Tryd.size_sum
  have c0 : w.cell? ⟨0, 0, none⟩ = some (.int .u32 1779033703) := hF.cell (i := 0) (by omega)
  have c1 : w.cell? ⟨0, 1, none⟩ = some (.int .u32 3144134277) := hF.cell (i := 1) (by omega)
  have c2 : w.cell? ⟨0, 2, none⟩ = some (.int .u32 1013904242) := hF.cell (i := 2) (by omega)
  have c3 : w.cell? ⟨0, 3, none⟩ = some (.int .u32 2773480762) := hF.cell (i := 3) (by omega)
  have c4 : w.cell? ⟨0, 4, none⟩ = some (.int .u32 1359893119) := hF.cell (i := 4) (by omega)
  have c5 : w.cell? ⟨0, 5, none⟩ = some (.int .u32 2600822924) := hF.cell (i := 5) (by omega)
  have c6 : w.cell? ⟨0, 6, none⟩ = some (.int .u32 528734635) := hF.cell (i := 6) (by omega)
  have c7 : w.cell? ⟨0, 7, none⟩ = some (.int .u32 1541459225) := hF.cell (i := 7) (by omega)
  clear hR hF hc
  go_enter Tryd.func30, Tryd.ntmps30
  obtain ⟨b, hb⟩ : ∃ b, w.heap.size = b := ⟨_, rfl⟩
  obtain ⟨W1, hW1⟩ : ∃ x, (w.alloc (.cells zer74 77)).setRow w.heap.size sumZ = x := ⟨_, rfl⟩
  have hal : (w.alloc (.cells zer74 77)).heap[w.heap.size]? = some (.cells zer74 77 (0, 0)) := heap_alloc_last w _
  have hrow : W1.heap[w.heap.size]? = some (.cells sumZ 77 (0, 0)) := by rw [← hW1]; exact setRow_heap _ _ _ _ _ _ hal
  have HSI : Hid (SumIs W1 b (pushT kAt (iv0, []) (joinP (ps.take 0))) ((joinP (ps.take 0)).length : Nat)) := ⟨by show 0 < 64; omega, List.replicate 64 0, ⟨rfl, rfl, by rw [← hb]; exact hrow⟩, rfl⟩
  have HBI : Hid (Below b w W1) := by show Below _ _ _; rw [← hW1]; exact below_setRow ((Below.refl _ _).alloc (by omega) _) (by omega) _
  have HAL : Hid ((w.alloc (.cells zer74 77)).heap[w.heap.size]? = some (.cells zer74 77 (0, 0))) := hal
  have HONE : Hid (sumZ.all (·.oneCell') = true) := by show _ = true; kernel_rfl
  have HW1 : Hid ((w.alloc (.cells zer74 77)).setRow w.heap.size sumZ = W1) := hW1
  have HBE : Hid (w.heap.size = b) := hb
  have hgb : 1 < b := by rw [← hb]; exact HR.out.lt
  have hPb : P < b := by rw [← hb]; exact hP
  clear hal hrow hW1 hb
  first
    | (go_wp2_with fail
       rw [run_zero_sum]
       change Oper.upon Tryd.prog _ _ _ _ (Result.ok (Next.value (.agg sumZ)) w)
       rw [Oper.upon_value]
       go_wp2_with fail
       rw [run_zero_sum]
       change Oper.upon Tryd.prog _ _ _ _ (Result.ok (Next.value (.pointer (some ⟨w.heap.size, 0, none⟩))) (w.alloc (.cells zer74 77)))
       rw [Oper.upon_value]
       clear c0 c1 c2 c3 c4 c5 c6 c7
       go_wp2_with (refine wpList_store_row rfl 77 _ _ rfl w.heap.size sumZ rfl rfl 77 zer74 HAL.out HSS.out rfl HONE.out ?_; rw [HW1.out]))
    | (go_wp2_with (refine wpList_store_row rfl 77 _ _ rfl w.heap.size sumZ rfl (by kernel_rfl) 77 zer74 HAL.out HSS.out rfl HONE.out ?_; clear c0 c1 c2 c3 c4 c5 c6 c7; show wpList _ _ _ _ _ ((w.alloc (.cells zer74 77)).setRow w.heap.size sumZ); rw [HW1.out]))
  rw [HBE.out]
  clear HW1 HAL HONE hP
  have hP := hPb
  clear hPb
  go_loopw [11] (fun i wr => ∃ (k : Nat), k ≤ n ∧ i = .int .i64 k ∧ SumIs wr b (pushT kAt (iv0, []) (joinP (ps.take k))) ((joinP (ps.take k)).length : Nat) ∧ Below b w wr) (fun i _ => n - (intOf i).toNat)
  case atStart => exact ⟨0, Nat.zero_le _, rfl, HSI.out, HBI.out⟩
  case round =>
    clear HSI HBI
    obtain ⟨k, hk, rfl, hs1, hl1⟩ := hrel
    have H : Hid (SumIs wr b (pushT kAt (iv0, []) (joinP (ps.take k))) ((joinP (ps.take k)).length : Nat)) := hs1
    have L : Hid (Below b w wr) := hl1
    clear hs1 hl1
    have hjl : (joinP (ps.take k)).length ≤ 8000000 := by
      have h1 := joinP_len (ps.take k) (fun x hx => hs x (List.mem_of_mem_take hx))
      rw [List.length_take] at h1
      omega
    by_cases hlt : k < n
    · have hlt' : (k : Int) < (n : Int) := by omega
      obtain ⟨x, hx⟩ : ∃ x, ps[k]? = some x := ⟨_, List.getElem?_eq_getElem (by omega)⟩
      have cx : wr.cell? ⟨P, k, none⟩ = some (.string x) := (L.out.cell (p := ⟨P, k, none⟩) hP).trans (HC.out k x hx)
      have hxs : x.size ≤ 2000000 := hs x (List.mem_of_getElem? hx)
      have HJ : Hid (joinP (ps.take (k + 1)) = joinP (ps.take k) ++ x.data.toList) := by
        show _ = _
        rw [List.take_add_one, hx]
        unfold joinP
        simp
      clear hx
      go_wp2_with fail
      refine (write_any _ b _ _ x H.out (HR.out.from hgb L.out) hgb hxs (by omega) (by omega)).mono ?_
      rintro e w3 ⟨rfl, hs3, hb3⟩
      have H3 : Hid (SumIs w3 b (pushT kAt (iv0, []) (joinP (ps.take (k + 1)))) ((joinP (ps.take (k + 1))).length : Nat)) := by
        show SumIs _ _ _ _
        rw [HJ.out, pushT_append, List.length_append, show ((((joinP (ps.take k)).length + x.data.toList.length : Nat)) : Int) = ((joinP (ps.take k)).length : Int) + (x.size : Int) by rw [show x.data.toList.length = x.size from rfl]; omega]
        exact hs3
      have L3 : Hid (Below b w w3) := L.out.trans hb3
      clear hs3 hb3
      go_wp2
      go_roundw
      case rel => exact ⟨k + 1, by omega, by go_num, H3.out, L3.out⟩
      case measure => simp [intOf]; omega
    · have hkn : k = n := by omega
      have HE : Hid (SumIs wr b (pushT kAt (iv0, []) (joinP ps)) ((joinP ps).length : Nat)) := by
        have h1 := H.out
        rw [hkn, List.take_of_length_le (by omega)] at h1
        exact h1
      have hjl2 : (joinP ps).length ≤ 8000000 := by
        rw [hkn, List.take_of_length_le (by omega)] at hjl
        exact hjl
      have hlt' : ¬ ((k : Int) < (n : Int)) := by omega
      clear hkn H hjl
      go_wp2_with fail
      refine (end_any _ b iv0 (joinP ps) HE.out (HR.out.from hgb L.out) hgb hjl2).mono ?_
      rintro e w4 ⟨rfl, hb4⟩
      have L4 : Hid (Below b w w4) := L.out.trans hb4
      clear hb4
      go_wp2
      go_ret
      exact ⟨rfl, by rw [HBE.out]; exact L4.out⟩
end Go.Proofs.YtdjpeickokoclaaDoor
