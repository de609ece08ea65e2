/-
  Bytes that are put one by one behind a text's: rows of bytes, be they marked or not; append of one.
-/
import Derived.Test.YtdjpeickokoclaaDoorGW445
import Derived.Test.YtdjpeickokoclaaDoorGW434
import Derived.Test.YtdjpeickokoclaaDoorW343
import Derived.Test.YtdjpeickokoclaaDoorGW438
import Derived.Test.YtdjpeickokoclaaDoorGW2
import Derived.Lib.ConvBytes
import Derived.Laws.AppendOwn
import Derived.Laws.IdiomCopy
namespace Go.Proofs.YtdjpeickokoclaaDoor
open Go.RowKit
set_option linter.unusedVariables false
/-- A row of bytes that one may write behind. -/
structure BRow (w : World) (lo g n cap : Nat) (l : List UInt8) : Prop where
  low : lo ≤ g
  lt : g < w.heap.size
  len : l.length = n
  fit : n ≤ cap
  here : ∀ j, j < cap → (w.cell? ⟨g, j, none⟩).isSome = true ∧ w.frozen? ⟨g, j, none⟩ = false
  cells : ∀ j, j < n → w.cell? ⟨g, j, none⟩ = some (.int .u8 ((bAt l j).toNat : Int))
theorem BRow.below {w w' : World} {lo g n cap : Nat} {l : List UInt8} (h : BRow w lo g n cap l) (hb : Below w.heap.size w w') : BRow w' lo g n cap l := by
  have hk := hb.block g h.lt
  have hc : ∀ j, w'.cell? ⟨g, j, none⟩ = w.cell? ⟨g, j, none⟩ := fun j => World.cell?_of_block hk
  have hf : ∀ j, w'.frozen? ⟨g, j, none⟩ = w.frozen? ⟨g, j, none⟩ := fun j => by unfold World.frozen?; simp only [hk]
  exact ⟨h.low, Nat.lt_of_lt_of_le h.lt hb.size, h.len, h.fit, fun j hj => by rw [hc, hf]; exact h.here j hj, fun j hj => by rw [hc]; exact h.cells j hj⟩
theorem bAt_last (l : List UInt8) (c : UInt8) {n : Nat} (h : l.length = n) : bAt (l ++ [c]) n = c := by
  subst h
  unfold bAt
  rw [List.getD_eq_getElem?_getD, List.getElem?_append_right (Nat.le_refl _), Nat.sub_self]
  rfl
theorem bAt_old (l m : List UInt8) {j : Nat} (h : j < l.length) : bAt (l ++ m) j = bAt l j := by
  unfold bAt
  rw [List.getD_eq_getElem?_getD, List.getD_eq_getElem?_getD, List.getElem?_append_left h]
/-- Written behind the end, in the row itself. -/
theorem BRow.put {w : World} {lo g n cap : Nat} {l : List UInt8} (h : BRow w lo g n cap l) (hn : n < cap) (c : UInt8) : BRow (w.setCell ⟨g, n, none⟩ (.int .u8 (c.toNat : Int))) lo g (n + 1) cap (l ++ [c]) := by
  have hs : ∀ j, j < cap → ((w.setCell ⟨g, n, none⟩ (.int .u8 (c.toNat : Int))).cell? ⟨g, j, none⟩) = if j = n then some (.int .u8 (c.toNat : Int)) else w.cell? ⟨g, j, none⟩ := by
    intro j hj
    by_cases e : j = n
    · subst e
      rw [if_pos rfl]
      obtain ⟨u, hu⟩ := Option.isSome_iff_exists.1 (h.here j hj).1
      exact World.cell?_setCell_same w ⟨g, j, none⟩ _ hu
    · rw [if_neg e]
      exact World.cell?_setCell_other w _ _ _ (fun e2 => e (by cases e2; rfl))
  refine ⟨h.low, by rw [World.size_setCell]; exact h.lt, by rw [List.length_append, h.len]; rfl, hn, fun j hj => ?_, fun j hj => ?_⟩
  · rw [hs j hj, World.frozen?_setCell]
    refine ⟨?_, (h.here j hj).2⟩
    by_cases e : j = n
    · rw [if_pos e]; rfl
    · rw [if_neg e]; exact (h.here j hj).1
  · rw [hs j (by omega)]
    by_cases e : j = n
    · rw [if_pos e, e, bAt_last l c h.len]
    · rw [if_neg e, bAt_old l [c] (by have := h.len; omega)]
      exact h.cells j (by omega)
/-- append of one byte. -/
theorem run_append_byte {P : Program} (w : World) (t ty e : TypeId) (i : TypeInfo) (ht : P.underlying t = some (.slice e)) (hi : P.info? e = some i) (hz : i.zero = some (.int .u8 0)) (hs : i.size = 1) (hb : i.bytes = 1)
    (lo g n cap : Nat) (l : List UInt8) (h : BRow w lo g n cap l) (hn : n ≤ 100000000) (hlo : lo ≤ w.heap.size) (a c1 : Nat) (c : UInt8) (ha : w.cell? ⟨a, 0, none⟩ = some (.int .u8 (c.toNat : Int))) :
    ∃ g' cap' w', (Builtin.append_ #[t, t] ty #[.slice (some ⟨g, 0, none⟩) n cap, .slice (some ⟨a, 0, none⟩) 1 c1]).run P w = .ok (.slice (some ⟨g', 0, none⟩) (n + 1) cap') w' ∧ BRow w' lo g' (n + 1) cap' (l ++ [c]) ∧ Below lo w w' := by
  have hadd : ∀ b j, (⟨b, 0, none⟩ : Addr).add j = ⟨b, j, none⟩ := fun b j => by unfold Addr.add; split <;> simp_all
  have hnews : ∀ j v, [Value.int .u8 (c.toNat : Int)][j]? = some v → w.cell? ((⟨a, 0, none⟩ : Addr).add j) = some v := by
    intro j v hj
    have : j = 0 := by have := (List.getElem?_eq_some_iff.1 hj).1; simp at this; exact this
    subst this
    rw [hadd, ha]
    simpa using hj
  by_cases hroom : n < cap
  · refine ⟨g, cap, _, ?_, h.put hroom c, (Below.refl lo w).setCell (p := ⟨g, n, none⟩) h.low _⟩
    have hst := run_storeCells_cells (P := P) g n [Value.int .u8 (c.toNat : Int)] 0 w (fun j hj => by
      have : j = 0 := by simpa using hj
      subst this
      simpa using (h.here n hroom).1) (fun j hj => by
      have : j = 0 := by simpa using hj
      subst this
      simpa using (h.here n hroom).2) (fun v hv => by simp at hv; subst hv; rfl)
    have hf := run_firstCells_some (P := P) w 1 1 ⟨a, 0, none⟩ 1 c1 [Value.int .u8 (c.toNat : Int)] rfl hnews
    have hle : n + 1 ≤ cap := hroom
    simp only [Nat.add_zero] at hst
    have hst2 : (storeCells ⟨g, n, none⟩ [Value.int .u8 (c.toNat : Int)] 0).run P w = .ok () (w.setCell ⟨g, n, none⟩ (.int .u8 (c.toNat : Int))) := by rw [hst]; rfl
    simp [Builtin.append_, run_underlying ht, sizeOf, typeInfo, hi, hs, Builtin.lenOf, hle, hf, hadd, hst2]
  · have holds : ∀ j v, (Lib.byteCells l)[j]? = some v → w.cell? ((⟨g, 0, none⟩ : Addr).add j) = some v := by
      intro j v hj
      have hjl : j < l.length := by have := (List.getElem?_eq_some_iff.1 hj).1; rwa [Lib.byteCells_length] at this
      rw [hadd, h.cells j (by rw [← h.len]; exact hjl), ← hj]
      unfold Lib.byteCells bAt
      rw [List.getElem?_map, List.getElem?_eq_getElem hjl, List.getD_eq_getElem?_getD, List.getElem?_eq_getElem hjl]
      rfl
    have hlen := h.len
    have hcap : cap < n + 1 := by omega
    have hr := run_append_grow (P := P) w t ty e i (.int .u8 0) ht hi hz ⟨g, 0, none⟩ n cap (Lib.byteCells l) (by rw [Lib.byteCells_length, hs, hlen]; omega) holds ⟨a, 0, none⟩ 1 c1 [.int .u8 (c.toNat : Int)] (by rw [hs]; rfl) hnews (by omega) (by omega) (by rw [hb]; exact growslice_fits hcap (by omega))
    refine ⟨w.heap.size, _, _, hr, ?_, ((Below.refl lo w).drew).alloc hlo _⟩
    have hle : n + 1 ≤ grownCap w (n + 1) cap e := by
      unfold grownCap
      exact Nat.le_add_right _ _
    have hblk : (w.drew.alloc (.cells ((Lib.byteCells l).toArray ++ [Value.int .u8 (c.toNat : Int)].toArray ++ Builtin.zeroCells (Value.int .u8 0).cells (grownCap w (n + 1) cap e - (n + 1))) e)).heap[w.heap.size]? = some (.cells ((Lib.byteCells l).toArray ++ [Value.int .u8 (c.toNat : Int)].toArray ++ Builtin.zeroCells (Value.int .u8 0).cells (grownCap w (n + 1) cap e - (n + 1))) e (0, 0)) := heap_alloc_last w.drew _
    have hzc : (Builtin.zeroCells (Value.int .u8 0).cells (grownCap w (n + 1) cap e - (n + 1))).size = grownCap w (n + 1) cap e - (n + 1) := by simp [Builtin.zeroCells, Value.cells]
    refine ⟨hlo, by simp, by rw [List.length_append, hlen]; rfl, hle, fun j hj => ⟨?_, frozen_of_row _ _ _ _ _ hblk⟩, fun j hj => ?_⟩
    · rw [cell_of_row _ _ j _ _ _ hblk, Array.getElem?_eq_getElem (by simp [hzc, Lib.byteCells_length]; omega)]
      rfl
    · rw [cell_of_row _ _ j _ _ _ hblk, Array.getElem?_append_left (by simp [Lib.byteCells_length]; omega), List.append_toArray, List.getElem?_toArray, show ([Value.int .u8 (c.toNat : Int)] : List Value) = Lib.byteCells [c] from rfl, ← Lib.byteCells_append]
      have hjl : j < (l ++ [c]).length := by rw [List.length_append, hlen]; exact hj
      unfold Lib.byteCells bAt
      rw [List.getElem?_map, List.getElem?_eq_getElem hjl, List.getD_eq_getElem?_getD, List.getElem?_eq_getElem hjl]
      rfl
theorem wpList_append_byte {P : Program} {w : World} {ops : Array Oper} {rest : List Oper} {o : Oper} {a : Act} {Q : Exit → Act → World → Prop} (hgd : o.guard = none) (s x : Operand) (t : TypeId)
    (ho : o.op = .call { callee := .builtin .append, args := #[s, x], argTypes := #[t, t] })
    (e : TypeId) (i : TypeInfo) (ht : P.underlying t = some (.slice e)) (hi : P.info? e = some i) (hz : i.zero = some (.int .u8 0)) (hsz : i.size = 1) (hb : i.bytes = 1)
    (lo g n cap : Nat) (l : List UInt8) (hs : a.eval s = .slice (some ⟨g, 0, none⟩) n cap) (h : BRow w lo g n cap l) (hn : n ≤ 100000000) (hlo : lo ≤ w.heap.size) (b c1 : Nat) (c : UInt8) (hx : a.eval x = .slice (some ⟨b, 0, none⟩) 1 c1) (hc : w.cell? ⟨b, 0, none⟩ = some (.int .u8 (c.toNat : Int)))
    {d : Nat} (hd : o.dst = some d) (hk : ∀ g' cap' w', BRow w' lo g' (n + 1) cap' (l ++ [c]) → Below lo w w' → wpList P ops Q rest (a.put (some d) (.slice (some ⟨g', 0, none⟩) (n + 1) cap')) w') : wpList P ops Q (o :: rest) a w := by
  obtain ⟨g', cap', w', hr, h2, h3⟩ := run_append_byte (P := P) w t o.type e i ht hi hz hsz hb lo g n cap l h hn hlo b c1 c hc
  refine wpList_plain hgd fun K hK => ?_
  unfold Oper.wp execOp
  simp only [ho, resolve, invoke, builtin, Sem.run_bind, Sem.run_pure, Result.andThen_ok, List.map_toArray, List.map_cons, List.map_nil, hs, hx, hr]
  exact hK _ _ (by rw [hd]; exact hk g' cap' w' h2 h3)
theorem brow_new (w : World) (s : ByteArray) : BRow (Lib.bytesWorld w 5 s) w.heap.size w.heap.size s.size (grownCap w s.size 0 5) s.data.toList := by
  have hb := Lib.bytesWorld_at_new w 5 s
  have hsz : (Lib.bytesCells w 5 s).size = s.size + (grownCap w s.size 0 5 - s.size) := by simp [Lib.bytesCells]
  have hle : s.size ≤ grownCap w s.size 0 5 := by unfold grownCap; exact Nat.le_add_right _ _
  refine ⟨Nat.le_refl _, by rw [Lib.bytesWorld_size]; omega, rfl, hle, fun j hj => ⟨?_, ?_⟩, fun j hj => ?_⟩
  · rw [cell_of_row _ _ j _ _ _ hb, Array.getElem?_eq_getElem (by rw [hsz]; omega)]
    rfl
  · unfold World.frozen?
    simp only [hb, hsz]
    simp
    omega
  · rw [Lib.bytesWorld_cell _ _ _ j hj]
    rfl
end Go.Proofs.YtdjpeickokoclaaDoor
/-
  A text with its bit, its noughts and its size: spec.l6Padded.
-/
namespace Go.Proofs.YtdjpeickokoclaaDoor
open Go.RowKit
set_option linter.unusedVariables false
theorem below_bytes446 (w : World) (e : TypeId) (s : ByteArray) : Below w.heap.size w (Lib.bytesWorld w e s) :=
  ⟨rfl, rfl, rfl, by rw [Lib.bytesWorld_size]; omega, fun k hk => Lib.bytesWorld_at_old w e s k hk⟩
def lenV : Value → Nat
  | .slice _ n _ => n
  | _ => 0
def zpad (t : List UInt8) (k : Nat) : List UInt8 := t ++ [128] ++ List.replicate k 0
theorem size8_next (n k : Nat) (h : k < 8) : (size8 n).take (k + 1) = (size8 n).take k ++ [UInt8.ofNat (n >>> (8 * (7 - k)))] := by
  match k, h with
  | 0, _ => rfl
  | 1, _ => rfl
  | 2, _ => rfl
  | 3, _ => rfl
  | 4, _ => rfl
  | 5, _ => rfl
  | 6, _ => rfl
  | 7, _ => rfl
theorem wrap_u8 (n : Nat) : IntKind.u8.wrap (n : Int) = ((UInt8.ofNat n).toNat : Int) := by
  simp [IntKind.wrap, IntKind.signed, IntKind.bits]
theorem shr_nat (n k : Nat) : (n : Int) / (2 : Int) ^ k = ((n >>> k : Nat) : Int) := by
  rw [Nat.shiftRight_eq_div_pow, Int.natCast_ediv, Int.natCast_pow]
  rfl
set_option maxRecDepth 100000 in
set_option maxHeartbeats 8000000 in
theorem l6Padded_any (w : World) (s : ByteArray) (hs : s.size ≤ 2000000) :
    Calls Tryd.prog 53 #[.string s] w fun e w' => ∃ g cap, e = .returned (.slice (some ⟨g, 0, none⟩) (padT s.data.toList).length cap) ∧ BRow w' w.heap.size g (padT s.data.toList).length cap (padT s.data.toList) ∧ Below w.heap.size w w' := by
  obtain ⟨i3, hi3, hz3, hs3, hb3⟩ := info_parts Tryd.info_u8b
  have hcv := fun w' : World => Lib.run_convert_string_bytes (P := Tryd.prog) w' 9 22 5 s Tryd.underlying9 Tryd.underlying22 Tryd.underlying5
  have HR0 : Hid (BRow (Lib.bytesWorld w 5 s) w.heap.size w.heap.size s.size (grownCap w s.size 0 5) s.data.toList) := brow_new w s
  have HB0 : Hid (Below w.heap.size w (Lib.bytesWorld w 5 s)) := below_bytes446 w 5 s
  obtain ⟨W0, hW0⟩ : ∃ W0, Lib.bytesWorld w 5 s = W0 := ⟨_, rfl⟩
  have hcw := hcv w
  rw [hW0] at HR0 HB0 hcw
  clear hcv hW0
  generalize grownCap w s.size 0 5 = cap0 at hcw HR0
  have HA : Hid (BRow (W0.alloc (.cells #[.int .u8 128] 5)) w.heap.size w.heap.size s.size cap0 s.data.toList) := HR0.out.below ((Below.refl _ _).alloc (Nat.le_refl _) _)
  have HC : Hid ((W0.alloc (.cells #[.int .u8 128] 5)).cell? ⟨W0.heap.size, 0, none⟩ = some (.int .u8 (((128 : UInt8).toNat : Nat) : Int))) := by show _ = _; rw [cell_of_row _ _ 0 _ _ _ (heap_alloc_last W0 _)]; rfl
  have HBA : Hid (Below w.heap.size w (W0.alloc (.cells #[.int .u8 128] 5))) := HB0.out.alloc HB0.out.size _
  go_enter Tryd.func53, Tryd.ntmps53
  go_wp2_with (at_builtin; refine wpList_append_byte rfl _ _ 22 rfl 5 i3 Tryd.underlying22 hi3 hz3 hs3 hb3 w.heap.size w.heap.size s.size cap0 s.data.toList rfl HA.out (by omega) HBA.out.size W0.heap.size 1 128 rfl HC.out (d := 9) rfl ?_; intro g1 cap1 w1 hr1 hb1)
  have HR1 : Hid (BRow w1 w.heap.size g1 (s.size + 1) cap1 (s.data.toList ++ [128])) := hr1
  have HB1 : Hid (Below w.heap.size w w1) := HBA.out.trans hb1
  obtain ⟨n, hn⟩ : ∃ n, s.size = n := ⟨_, rfl⟩
  have hnl : s.data.toList.length = n := hn
  rw [hn] at HR1 hs ⊢
  clear hr1 hb1 HA HC HBA HR0 HB0 hcw
  go_loopw [3] (fun x wr => ∃ (k g cap : Nat), k ≤ zerosN n ∧ x = .slice (some ⟨g, 0, none⟩) (n + 1 + k) cap ∧ BRow wr w.heap.size g (n + 1 + k) cap (zpad s.data.toList k) ∧ Below w.heap.size w wr) (fun x _ => n + 1 + zerosN n - lenV x)
  case atStart => exact ⟨0, g1, cap1, Nat.zero_le _, rfl, by unfold zpad; simpa using HR1.out, HB1.out⟩
  case round =>
    clear HR1 HB1
    obtain ⟨k, g, cap, hk, rfl, hr, hb⟩ := hrel
    have hzn : zerosN n ≤ 63 := by unfold zerosN; omega
    obtain ⟨m, hm⟩ : ∃ m, n + 1 + k = m := ⟨_, rfl⟩
    rw [hm] at hr ⊢
    have HR : Hid (BRow wr w.heap.size g m cap (zpad s.data.toList k)) := hr
    have HB : Hid (Below w.heap.size w wr) := hb
    obtain ⟨r, hrm⟩ : ∃ r, m % 64 = r := ⟨_, rfl⟩
    have h64 : (m : Int) % 64 = (r : Int) := by omega
    have h64t : Int.tmod (m : Int) 64 = (r : Int) := by rw [Int.tmod_eq_emod_of_nonneg (by omega)]; omega
    clear hr hb
    by_cases h56 : r = 56
    · have h56' : (r : Int) = 56 := by omega
      have hkz : k = zerosN n := by unfold zerosN at hk ⊢; omega
      obtain ⟨M, hM⟩ : ∃ M, n + 1 + zerosN n = M := ⟨_, rfl⟩
      have hmM : m = M := by omega
      rw [hmM, hkz] at HR
      obtain ⟨N, hN⟩ : ∃ N, n * 8 = N := ⟨_, rfl⟩
      have hz8 : IntKind.i64.wrap ((n : Int) * 8) = (N : Int) := by rw [show (n : Int) * 8 = (N : Int) by omega]; exact IntWalk.i64_in _ (by omega)
      obtain ⟨wq, hwq⟩ : ∃ x, x = wr := ⟨_, rfl⟩
      subst hwq
      have hml : M ≤ 3000000 := by omega
      have HN : Hid (n * 8 = N) := hN
      have HMM : Hid (m = M) := hmM
      clear hkz hM hmM
      go_wp2_with fail
      rw [HMM.out]
      have HR2 : Hid (BRow wq w.heap.size g (M + (8 - 8)) cap (zpad s.data.toList (zerosN n) ++ (size8 N).take (8 - 8))) := by show BRow _ _ _ _ _ _; simpa using HR.out
      clear h64 h64t h56' HR hN
      go_loopw [3, 5] (fun x i wr => ∃ (J g cap : Nat), J ≤ 8 ∧ i = .int .i64 ((J : Int) - 1) ∧ x = .slice (some ⟨g, 0, none⟩) (M + (8 - J)) cap ∧ BRow wr w.heap.size g (M + (8 - J)) cap (zpad s.data.toList (zerosN n) ++ (size8 N).take (8 - J)) ∧ Below w.heap.size w wr) (fun _ i _ => (intOf i + 1).toNat)
      case atStart => exact ⟨8, g, cap, Nat.le_refl _, rfl, rfl, HR2.out, HB.out⟩
      case round =>
        clear HR2 HB
        obtain ⟨J, g, cap, hJ, rfl, rfl, hr, hb⟩ := hrel
        have HR : Hid (BRow wr w.heap.size g (M + (8 - J)) cap (zpad s.data.toList (zerosN n) ++ (size8 N).take (8 - J))) := hr
        have HB : Hid (Below w.heap.size w wr) := hb
        clear hr hb
        by_cases hJ0 : J = 0
        · subst hJ0
          have e1 : ((0 : Nat) : Int) - 1 = -1 := rfl
          rw [e1]
          have hpad : zpad s.data.toList (zerosN n) ++ (size8 N).take (8 - 0) = padT s.data.toList := by
            unfold zpad padT
            rw [hnl, HN.out]
            rfl
          have hlen : M + (8 - 0) = (padT s.data.toList).length := by rw [← hpad]; exact HR.out.len.symm
          have HE : Hid (BRow wr w.heap.size g (padT s.data.toList).length cap (padT s.data.toList)) := by
            have h1 := HR.out
            rw [hpad, hlen] at h1
            exact h1
          rw [hlen]
          clear hpad hlen HR
          go_wp2_with fail
          go_ret
          exact ⟨g, cap, rfl, HE.out, HB.out⟩
        · obtain ⟨q, rfl⟩ : ∃ q, J = q + 1 := ⟨J - 1, by omega⟩
          have e1 : ((q + 1 : Nat) : Int) - 1 = (q : Int) := by omega
          rw [e1]
          obtain ⟨m2, hm2⟩ : ∃ m2, M + (8 - (q + 1)) = m2 := ⟨_, rfl⟩
          rw [hm2] at HR ⊢
          obtain ⟨e, he⟩ : ∃ e, 8 * q = e := ⟨_, rfl⟩
          have he1 : IntKind.i64.wrap (8 * (q : Int)) = (e : Int) := by rw [show 8 * (q : Int) = (e : Int) by omega]; exact IntWalk.i64_in _ (by omega)
          have he0 : (0 : Int) ≤ (e : Int) := by omega
          have he2 : (e : Int) ≤ 63 := by omega
          have hsh : (N : Int) / (2 : Int) ^ e = ((N >>> e : Nat) : Int) := shr_nat N e
          obtain ⟨x, hx⟩ : ∃ x, N >>> e = x := ⟨_, rfl⟩
          rw [hx] at hsh
          obtain ⟨c, hc⟩ : ∃ c, UInt8.ofNat x = c := ⟨_, rfl⟩
          have hcv : IntKind.u8.wrap (x : Int) = (c.toNat : Int) := by rw [wrap_u8, hc]
          have hq0 : (0 : Int) ≤ (q : Int) := by omega
          have hqd : IntKind.i64.wrap ((q : Int) - 1) = (q : Int) - 1 := IntWalk.i64_in _ (by omega)
          have HT : Hid ((size8 N).take (8 - q) = (size8 N).take (8 - (q + 1)) ++ [c]) := by
            show _ = _
            have h1 := size8_next N (8 - (q + 1)) (by omega)
            rw [show 8 - (q + 1) + 1 = 8 - q by omega, show 8 * (7 - (8 - (q + 1))) = e by omega, hx, hc] at h1
            exact h1
          have HA : Hid (BRow (wr.alloc (.cells #[.int .u8 (c.toNat : Int)] 5)) w.heap.size g m2 cap (zpad s.data.toList (zerosN n) ++ (size8 N).take (8 - (q + 1)))) := HR.out.below ((Below.refl _ _).alloc (Nat.le_refl _) _)
          have HC : Hid ((wr.alloc (.cells #[.int .u8 (c.toNat : Int)] 5)).cell? ⟨wr.heap.size, 0, none⟩ = some (.int .u8 (c.toNat : Int))) := by show _ = _; rw [cell_of_row _ _ 0 _ _ _ (heap_alloc_last wr _)]; rfl
          have HBA : Hid (Below w.heap.size w (wr.alloc (.cells #[.int .u8 (c.toNat : Int)] 5))) := HB.out.alloc HB.out.size _
          have hm2l : m2 ≤ 3000008 := by omega
          have HM2 : Hid (M + (8 - (q + 1)) = m2) := hm2
          clear hx hc he hm2
          go_wp2_with (at_builtin; refine wpList_append_byte rfl _ _ 22 rfl 5 i3 Tryd.underlying22 hi3 hz3 hs3 hb3 w.heap.size g m2 cap _ rfl HA.out (by omega) HBA.out.size wr.heap.size 1 c rfl HC.out (d := 31) rfl ?_; intro g2 cap2 w2 hr2 hb2)
          have HR3 : Hid (BRow w2 w.heap.size g2 (M + (8 - q)) cap2 (zpad s.data.toList (zerosN n) ++ (size8 N).take (8 - q))) := by
            show BRow _ _ _ _ _ _
            rw [HT.out, ← List.append_assoc, show M + (8 - q) = m2 + 1 by have := HM2.out; omega]
            exact hr2
          have HB3 : Hid (Below w.heap.size w w2) := HBA.out.trans hb2
          have hms : m2 + 1 = M + (8 - q) := by have := HM2.out; omega
          go_roundw
          case rel => exact ⟨q, g2, cap2, by omega, rfl, by rw [hms], HR3.out, HB3.out⟩
          case measure => simp [intOf] <;> omega
    · have h56' : ¬ ((r : Int) = 56) := by omega
      have hkl : k < zerosN n := by unfold zerosN at hk ⊢; omega
      have HA : Hid (BRow (wr.alloc (.cells #[.int .u8 0] 5)) w.heap.size g m cap (zpad s.data.toList k)) := HR.out.below ((Below.refl _ _).alloc (Nat.le_refl _) _)
      have HC : Hid ((wr.alloc (.cells #[.int .u8 0] 5)).cell? ⟨wr.heap.size, 0, none⟩ = some (.int .u8 (((0 : UInt8).toNat : Nat) : Int))) := by show _ = _; rw [cell_of_row _ _ 0 _ _ _ (heap_alloc_last wr _)]; rfl
      have HBA : Hid (Below w.heap.size w (wr.alloc (.cells #[.int .u8 0] 5))) := HB.out.alloc HB.out.size _
      go_wp2_with (at_builtin; refine wpList_append_byte rfl _ _ 22 rfl 5 i3 Tryd.underlying22 hi3 hz3 hs3 hb3 w.heap.size g m cap _ rfl HA.out (by omega) HBA.out.size wr.heap.size 1 0 rfl HC.out (d := 16) rfl ?_; intro g2 cap2 w2 hr2 hb2)
      have HR3 : Hid (BRow w2 w.heap.size g2 (n + 1 + (k + 1)) cap2 (zpad s.data.toList (k + 1))) := by
        show BRow _ _ _ _ _ _
        have e1 : zpad s.data.toList (k + 1) = zpad s.data.toList k ++ [0] := by unfold zpad; rw [List.replicate_succ', List.append_assoc]; simp
        rw [e1, show n + 1 + (k + 1) = m + 1 by omega]
        exact hr2
      have HB3 : Hid (Below w.heap.size w w2) := HBA.out.trans hb2
      have hms : m + 1 = n + 1 + (k + 1) := by omega
      go_roundw
      case rel => exact ⟨k + 1, g2, cap2, by omega, by rw [hms], HR3.out, HB3.out⟩
      case measure => simp [lenV] <;> omega
end Go.Proofs.YtdjpeickokoclaaDoor
/-
  The sum of a text, block by block: spec.l6Sum.
-/
namespace Go.Proofs.YtdjpeickokoclaaDoor
open Go.RowKit
set_option linter.unusedVariables false
theorem ret_str448 {a b : ByteArray} (h : a = b) : Ending.returned (.string a) = .returned (.string b) := by rw [h]
def ivC : Array Value := #[.int .u32 1779033703, .int .u32 3144134277, .int .u32 1013904242, .int .u32 2773480762, .int .u32 1359893119, .int .u32 2600822924, .int .u32 528734635, .int .u32 1541459225]
theorem ivC_at {j : Nat} (h : j < 8) : ivC[j]? = some (.int .u32 (wn (wAt (bytesOf iv0) j))) := by
  have e : ivC = (wordCells (bytesOf iv0)).toArray := rfl
  rw [e, List.getElem?_toArray]
  exact wordCells_at h
theorem blocks_next (K : Nat → Wd) (v : Wds) (l : List UInt8) (T k : Nat) (h : k < T) : blocksT K (T - k) v (l.drop (64 * k)) = blocksT K (T - (k + 1)) (mixT K v ((l.drop (64 * k)).take 64)) (l.drop (64 * (k + 1))) := by
  rw [show T - k = (T - (k + 1)) + 1 by omega, blocksT, List.drop_drop, show 64 * k + 64 = 64 * (k + 1) by omega]
theorem BRow.block {w : World} {lo g n cap : Nat} {l : List UInt8} (h : BRow w lo g n cap l) {o : Nat} (ho : o + 64 ≤ n) : BytesAt w g o ((l.drop o).take 64) := by
  refine ⟨h.lt, fun i hi => ?_⟩
  have hl := h.len
  have hi2 : i < 64 := by rw [List.length_take] at hi; omega
  rw [h.cells (o + i) (by omega), wn_bw]
  have e : bAt ((l.drop o).take 64) i = bAt l (o + i) := by
    unfold bAt
    rw [List.getD_eq_getElem?_getD, List.getD_eq_getElem?_getD, List.getElem?_take_of_lt hi2, List.getElem?_drop]
  rw [e]
theorem own_bytes448 {w : World} {B : Nat} {e : TypeId} {g cap : Nat} {l : List UInt8} (h : w.ownsRow B e 1 (.slice (some ⟨g, 0, none⟩) l.length cap) l.length (Lib.byteCells l)) :
    ∀ j (hj : j < l.length), w.cell? ((⟨g, 0, none⟩ : Addr).add j) = some (.int .u8 (l[j].toNat : Int)) := by
  intro j hj
  have := World.ownsRow.cells h (g := g) rfl j (.int .u8 (l[j].toNat : Int)) (by simp [Lib.byteCells, hj])
  exact this
/-- The bytes of a word by themselves. -/
def wby (x : Wd) (k : Nat) : UInt8 := UInt8.ofNat (wn (x >>> k) % 256).toNat
theorem wbL_wby (x : Wd) : wbL x = [wby x 24, wby x 16, wby x 8, wby x 0] := by
  unfold wbL wb
  rw [strOfNums_data]
  unfold nums4 wby
  simp
theorem wrap_wby (x : Wd) (k : Nat) : IntKind.u8.wrap (wn (x >>> k)) = ((wby x k).toNat : Int) := by
  have h := wn_range (x >>> k)
  unfold wby
  generalize wn (x >>> k) = y at h
  have h2 : (y % 256).toNat < 256 := by omega
  have h3 : ((UInt8.ofNat (y % 256).toNat).toNat : Int) = y % 256 := by
    rw [UInt8.toNat_ofNat_of_lt' (by simpa using h2)]
    omega
  rw [h3]
  simp [IntKind.wrap, IntKind.signed, IntKind.bits]
theorem digest_len (l : List Wd) : (digestT l).length = 4 * l.length := by
  induction l with
  | nil => rfl
  | cons a l ih => show (wbL a ++ digestT l).length = _; rw [List.length_append, ih, wbL_len, List.length_cons]; omega
theorem digest_next {D : List Wd} {q : Nat} (h : q < D.length) : digestT (D.take (q + 1)) = digestT (D.take q) ++ wbL (wAt D q) := by
  rw [List.take_add_one, List.getElem?_eq_getElem h]
  have e : D[q] = wAt D q := by unfold wAt; rw [List.getD_eq_getElem?_getD, List.getElem?_eq_getElem h]; rfl
  rw [e]
  unfold digestT
  simp
theorem four_one (a b c d : UInt8) : ∀ u ∈ Lib.byteCells [a, b, c, d], u.oneCell' = true := Lib.byteCells_one _
set_option maxRecDepth 100000 in
set_option maxHeartbeats 8000000 in
theorem l6Sum_any (w : World) (s : ByteArray) (hs : s.size ≤ 2000000) :
    Calls Tryd.prog 41 #[.string s] w fun e w' => e = .returned (.string ⟨(digestT (bytesOf (sumW kAt iv0 s.data.toList))).toArray⟩) ∧ Below w.heap.size w w' := by
  obtain ⟨i3, hi3, hz3, hs3, hb3⟩ := info_parts Tryd.info_u8b
  obtain ⟨pd, hpd⟩ : ∃ pd, padT s.data.toList = pd := ⟨_, rfl⟩
  have hpl : pd.length % 64 = 0 := by rw [← hpd]; exact padT_len _
  have hpz : pd.length ≤ 2000200 := by
    have hz : zerosN s.data.toList.length ≤ 63 := by unfold zerosN; omega
    have hl : s.data.toList.length = s.size := rfl
    rw [← hpd]
    unfold padT size8
    simp only [List.length_append, List.length_cons, List.length_nil, List.length_replicate, List.length_map]
    omega
  obtain ⟨T, hT⟩ : ∃ T, pd.length / 64 = T := ⟨_, rfl⟩
  have hpT : pd.length = 64 * T := by omega
  have HSUM : Hid (sumW kAt iv0 s.data.toList = blocksT kAt T iv0 pd) := by show _ = _; unfold sumW; rw [hpd, hT]
  obtain ⟨W0, hW0⟩ : ∃ x, w.alloc (.cells ivC 70) = x := ⟨_, rfl⟩
  have hrow : W0.heap[w.heap.size]? = some (.cells ivC 70 (0, 0)) := by rw [← hW0]; exact heap_alloc_last w _
  have HI : Hid (∀ j, j < 8 → W0.cell? ⟨w.heap.size, j, none⟩ = some (.int .u32 (wn (wAt (bytesOf iv0) j)))) := fun j hj => by rw [cell_of_row _ _ j _ _ _ hrow]; exact ivC_at hj
  have HB0 : Hid (Below w.heap.size w W0) := by show Below _ _ _; rw [← hW0]; exact (Below.refl _ _).alloc (Nat.le_refl _) _
  have hz0 : w.heap.size < W0.heap.size := (Array.getElem?_eq_some_iff.1 hrow).1
  have HW0 : Hid (w.alloc (.cells #[.int .u32 1779033703, .int .u32 3144134277, .int .u32 1013904242, .int .u32 2773480762, .int .u32 1359893119, .int .u32 2600822924, .int .u32 528734635, .int .u32 1541459225] 70) = W0) := hW0
  clear hrow hW0 hT
  go_enter Tryd.func41, Tryd.ntmps41
  go_wp2_with fail
  rw [HW0.out]
  refine (l6Padded_any W0 s hs).mono ?_
  rintro e w1 ⟨g, cap, rfl, hr1, hb1⟩
  rw [hpd] at hr1 ⊢
  have HP : Hid (BRow w1 W0.heap.size g pd.length cap pd) := hr1
  have HB1 : Hid (Below w.heap.size w w1) := HB0.out.trans (hb1.mono (Nat.le_of_lt hz0))
  have HI1 : Hid (∀ j, j < 8 → w1.cell? ⟨w.heap.size, j, none⟩ = some (.int .u32 (wn (wAt (bytesOf iv0) j)))) := fun j hj => (hb1.cell (p := ⟨w.heap.size, j, none⟩) hz0).trans (HI.out j hj)
  have hz1 : w.heap.size < w1.heap.size := Nat.lt_of_lt_of_le hz0 hb1.size
  have hfit : pd.length ≤ cap := hr1.fit
  clear hr1 hb1 HI HB0 hpd
  go_wp2_with fail
  go_loopw [3, 5] (fun x i wr => ∃ (k H capH : Nat) (V : Wds), k ≤ T ∧ i = .int .i64 ((64 * k : Nat) : Int) ∧ x = .slice (some ⟨H, 0, none⟩) 8 capH ∧ 8 ≤ capH ∧ H < wr.heap.size ∧ (∀ j, j < 8 → wr.cell? ⟨H, j, none⟩ = some (.int .u32 (wn (wAt (bytesOf V) j)))) ∧ blocksT kAt T iv0 pd = blocksT kAt (T - k) V (pd.drop (64 * k)) ∧ Below w1.heap.size w1 wr) (fun _ i _ => 64 * T - (intOf i).toNat)
  case atStart => exact ⟨0, w.heap.size, 8, iv0, Nat.zero_le _, rfl, rfl, Nat.le_refl _, hz1, HI1.out, rfl, Below.refl _ _⟩
  case round =>
    clear HI1
    obtain ⟨k, H, capH, V, hk, rfl, rfl, hcH, hHl, hh, hbl, hb⟩ := hrel
    have HH : Hid (∀ j, j < 8 → wr.cell? ⟨H, j, none⟩ = some (.int .u32 (wn (wAt (bytesOf V) j)))) := hh
    have HBL : Hid (blocksT kAt T iv0 pd = blocksT kAt (T - k) V (pd.drop (64 * k))) := hbl
    have HB : Hid (Below w1.heap.size w1 wr) := hb
    clear hh hbl hb
    obtain ⟨o, ho⟩ : ∃ o, 64 * k = o := ⟨_, rfl⟩
    have HO : Hid (64 * k = o) := ho
    rw [ho]
    by_cases hlt : k < T
    · have l0 : (o : Int) < (pd.length : Int) := by omega
      have l1 : (0 : Int) ≤ (o : Int) := by omega
      have l2 : IntKind.i64.wrap ((o : Int) + 64) = ((o + 64 : Nat) : Int) := by rw [show (o : Int) + 64 = ((o + 64 : Nat) : Int) by omega]; exact IntWalk.i64_in _ (by omega)
      have l3 : (o : Int) ≤ ((o + 64 : Nat) : Int) := by omega
      have l4 : ((o + 64 : Nat) : Int) ≤ (cap : Int) := by omega
      have l5 : ¬ (cap = o) := by omega
      have l6 : ((o + 64 : Nat) : Int) - (o : Int) = 64 := by omega
      have HBY : Hid (BytesAt wr g o ((pd.drop o).take 64)) := ((HP.out.below HB.out).block (o := o) (by omega))
      have hlb : ((pd.drop o).take 64).length = 64 := by rw [List.length_take, List.length_drop]; omega
      have HLB : Hid (((pd.drop o).take 64).length = 64) := hlb
      clear ho hlb
      go_wp2_with fail
      refine (l6Block_any wr H capH g o (cap - o) V ((pd.drop o).take 64) HH.out hHl hcH HBY.out HLB.out (by omega)).mono ?_
      rintro e w2 ⟨v2, rfl, ho2, hb2⟩
      obtain ⟨H2, capH2, f2, rfl, hq1, hq2, hq3, hq4, hq5⟩ := row_of_owns (l := bytesOf (mixT kAt V ((pd.drop o).take 64))) ho2 (Nat.zero_lt_succ 7)
      have HH2 : Hid (∀ j, j < 8 → w2.cell? ⟨H2, j, none⟩ = some (.int .u32 (wn (wAt (bytesOf (mixT kAt V ((pd.drop o).take 64))) j)))) := fun j hj => by rw [hq4.cell (Nat.lt_of_lt_of_le hj hq3), hq5 j hj]
      have HB2 : Hid (Below w1.heap.size w1 w2) := HB.out.trans (hb2.mono HB.out.size)
      have HBL2 : Hid (blocksT kAt T iv0 pd = blocksT kAt (T - (k + 1)) (mixT kAt V ((pd.drop o).take 64)) (pd.drop (64 * (k + 1)))) := by
        show _ = _
        rw [HBL.out, blocks_next kAt V pd T k hlt, HO.out]
      have hcH2 : 8 ≤ capH2 := hq3
      have hok : o + 64 = 64 * (k + 1) := by have := HO.out; omega
      rw [bytesOf_len]
      clear ho2 hb2 hq1 hq3 hq4 hq5
      go_wp2_with fail
      go_roundw
      case rel => exact ⟨k + 1, H2, capH2, mixT kAt V ((pd.drop o).take 64), by omega, congrArg (Value.int IntKind.i64) (by omega), rfl, hcH2, hq2, HH2.out, HBL2.out, HB2.out⟩
      case measure => simp [intOf] <;> omega
    · have hkT : k = T := by omega
      have l0 : ¬ ((o : Int) < (pd.length : Int)) := by omega
      have HV : Hid (sumW kAt iv0 s.data.toList = V) := by show _ = _; rw [HSUM.out, HBL.out, hkT, Nat.sub_self]; rfl
      obtain ⟨D, hD⟩ : ∃ D, bytesOf V = D := ⟨_, rfl⟩
      have hDl : D.length = 8 := by rw [← hD]; rfl
      have HD : Hid (bytesOf V = D) := hD
      rw [hD] at HH
      obtain ⟨wq, hwq⟩ : ∃ x, x = wr := ⟨_, rfl⟩
      subst hwq
      have HE : Hid ((wq.alloc (.cells #[] 5)).ownsRow wq.heap.size 5 1 (.slice (some ⟨wq.heap.size, 0, none⟩) 0 0) 0 (Lib.byteCells (digestT (D.take 0)))) := own_of_block (heap_alloc_last _ _) (Nat.le_refl _)
      have HE2 : Hid (Below wq.heap.size wq (wq.alloc (.cells #[] 5))) := (Below.refl _ _).alloc (Nat.le_refl _) _
      clear hkT ho hD
      go_wp2_with fail
      go_loopw [6, 7] (fun x i wr => ∃ (q : Nat), q ≤ 8 ∧ i = .int .i64 q ∧ wr.ownsRow wq.heap.size 5 1 x (4 * q) (Lib.byteCells (digestT (D.take q))) ∧ Below wq.heap.size wq wr) (fun _ i _ => 8 - (intOf i).toNat)
      case atStart => exact ⟨0, Nat.zero_le _, rfl, HE.out, HE2.out⟩
      case round =>
        clear HE HE2
        obtain ⟨q, hq, rfl, hown0, hbl⟩ := hrel
        have HQ : Hid (wr.ownsRow wq.heap.size 5 1 u6 (4 * q) (Lib.byteCells (digestT (D.take q)))) := hown0
        have HL : Hid (Below wq.heap.size wq wr) := hbl
        clear hown0 hbl
        by_cases hq8 : q < 8
        · have hq8' : (q : Int) < 8 := by omega
          obtain ⟨x, hx⟩ : ∃ x, wAt D q = x := ⟨_, rfl⟩
          have HST : Hid (digestT (D.take (q + 1)) = digestT (D.take q) ++ [wby x 24, wby x 16, wby x 8, wby x 0]) := by show _ = _; rw [digest_next (by omega), hx, wbL_wby]
          have cx : wr.cell? ⟨H, q, none⟩ = some (.int .u32 (wn x)) := by rw [← hx]; exact (HL.out.cell (p := ⟨H, q, none⟩) hHl).trans (HH.out q hq8)
          have r1 := wn_shr8 x
          have r2 := wn_shr16 x
          have r3 := wn_shr24 x
          obtain ⟨b3, hb3'⟩ : ∃ b, wby x 24 = b := ⟨_, rfl⟩
          obtain ⟨b2, hb2'⟩ : ∃ b, wby x 16 = b := ⟨_, rfl⟩
          obtain ⟨b1, hb1'⟩ : ∃ b, wby x 8 = b := ⟨_, rfl⟩
          obtain ⟨b0, hb0'⟩ : ∃ b, wby x 0 = b := ⟨_, rfl⟩
          have s3 : IntKind.u8.wrap (wn (x >>> 24)) = (b3.toNat : Int) := by rw [wrap_wby, hb3']
          have s2 : IntKind.u8.wrap (wn (x >>> 16)) = (b2.toNat : Int) := by rw [wrap_wby, hb2']
          have s1 : IntKind.u8.wrap (wn (x >>> 8)) = (b1.toNat : Int) := by rw [wrap_wby, hb1']
          have s0 : IntKind.u8.wrap (wn x) = (b0.toNat : Int) := by have := wrap_wby x 0; rw [hb0'] at this; exact this
          rw [hb3', hb2', hb1', hb0'] at HST
          clear hx hb3' hb2' hb1' hb0'
          go_wp2_with fail
          refine wp_region_held_drew (S := (fun w' => w'.cell? ⟨H, q, none⟩ = some (.int .u32 (wn x)))) (by kernel_rfl) ?_ (fun hHeld => ?_)
          · exact cx
          refine wpAnyH_takeD (i := 0) (d := 29) (v := u6) rfl (by kernel_rfl) (by kernel_rfl) (by kernel_rfl) (fun _ _ _ h => h) (Or.inl ⟨by rfl, by intro w hSw; (try dsimp only at hSw); go_simp⟩) (by assumption) rfl ?_
          simp only [Act.put, List.setIfInBounds_toArray, List.set_cons_zero, List.set_cons_succ]
          refine wpAnyH_takeD (i := 1) (d := 30) (v := .slice (some ⟨H, 0, none⟩) 8 capH) rfl (by kernel_rfl) (by kernel_rfl) (by kernel_rfl) (fun _ _ _ h => h) (Or.inl ⟨by rfl, by intro w hSw; (try dsimp only at hSw); go_simp⟩) (by assumption) rfl ?_
          simp only [Act.put, List.setIfInBounds_toArray, List.set_cons_zero, List.set_cons_succ]
          refine wpAnyH_takeD (i := 2) (d := 31) (v := .int .i64 (q : Int)) rfl (by kernel_rfl) (by kernel_rfl) (by kernel_rfl) (fun _ _ _ h => h) (Or.inl ⟨by rfl, by intro w hSw; (try dsimp only at hSw); go_simp⟩) (by assumption) rfl ?_
          simp only [Act.put, List.setIfInBounds_toArray, List.set_cons_zero, List.set_cons_succ]
          refine wpAnyH_takeD (i := 3) (d := 32) (v := .pointer (some ⟨H, q, none⟩)) rfl (by kernel_rfl) (by kernel_rfl) (by kernel_rfl) (fun _ _ _ h => h) (Or.inl ⟨by rfl, by intro w hSw; (try dsimp only at hSw); go_simp⟩) (by assumption) rfl ?_
          simp only [Act.put, List.setIfInBounds_toArray, List.set_cons_zero, List.set_cons_succ]
          refine wpAnyH_takeD (i := 4) (d := 33) (v := .int .u32 (wn x)) rfl (by kernel_rfl) (by kernel_rfl) (by kernel_rfl) (fun _ _ _ h => h) (Or.inl ⟨by rfl, by intro w hSw; (try dsimp only at hSw); go_simp⟩) (by assumption) rfl ?_
          simp only [Act.put, List.setIfInBounds_toArray, List.set_cons_zero, List.set_cons_succ]
          refine wpAnyH_takeD (i := 5) (d := 34) (v := .int .u32 (wn (x >>> 24))) rfl (by kernel_rfl) (by kernel_rfl) (by kernel_rfl) (fun _ _ _ h => h) (Or.inl ⟨by rfl, by intro w hSw; (try dsimp only at hSw); go_simp⟩) (by assumption) rfl ?_
          simp only [Act.put, List.setIfInBounds_toArray, List.set_cons_zero, List.set_cons_succ]
          refine wpAnyH_takeD (i := 6) (d := 35) (v := .int .u8 (b3.toNat : Int)) rfl (by kernel_rfl) (by kernel_rfl) (by kernel_rfl) (fun _ _ _ h => h) (Or.inl ⟨by rfl, by intro w hSw; (try dsimp only at hSw); go_simp⟩) (by assumption) rfl ?_
          simp only [Act.put, List.setIfInBounds_toArray, List.set_cons_zero, List.set_cons_succ]
          refine wpAnyH_takeD (i := 7) (d := 36) (v := .slice (some ⟨H, 0, none⟩) 8 capH) rfl (by kernel_rfl) (by kernel_rfl) (by kernel_rfl) (fun _ _ _ h => h) (Or.inl ⟨by rfl, by intro w hSw; (try dsimp only at hSw); go_simp⟩) (by assumption) rfl ?_
          simp only [Act.put, List.setIfInBounds_toArray, List.set_cons_zero, List.set_cons_succ]
          refine wpAnyH_takeD (i := 8) (d := 37) (v := .int .i64 (q : Int)) rfl (by kernel_rfl) (by kernel_rfl) (by kernel_rfl) (fun _ _ _ h => h) (Or.inl ⟨by rfl, by intro w hSw; (try dsimp only at hSw); go_simp⟩) (by assumption) rfl ?_
          simp only [Act.put, List.setIfInBounds_toArray, List.set_cons_zero, List.set_cons_succ]
          refine wpAnyH_takeD (i := 9) (d := 38) (v := .pointer (some ⟨H, q, none⟩)) rfl (by kernel_rfl) (by kernel_rfl) (by kernel_rfl) (fun _ _ _ h => h) (Or.inl ⟨by rfl, by intro w hSw; (try dsimp only at hSw); go_simp⟩) (by assumption) rfl ?_
          simp only [Act.put, List.setIfInBounds_toArray, List.set_cons_zero, List.set_cons_succ]
          refine wpAnyH_takeD (i := 10) (d := 39) (v := .int .u32 (wn x)) rfl (by kernel_rfl) (by kernel_rfl) (by kernel_rfl) (fun _ _ _ h => h) (Or.inl ⟨by rfl, by intro w hSw; (try dsimp only at hSw); go_simp⟩) (by assumption) rfl ?_
          simp only [Act.put, List.setIfInBounds_toArray, List.set_cons_zero, List.set_cons_succ]
          refine wpAnyH_takeD (i := 11) (d := 40) (v := .int .u32 (wn (x >>> 16))) rfl (by kernel_rfl) (by kernel_rfl) (by kernel_rfl) (fun _ _ _ h => h) (Or.inl ⟨by rfl, by intro w hSw; (try dsimp only at hSw); go_simp⟩) (by assumption) rfl ?_
          simp only [Act.put, List.setIfInBounds_toArray, List.set_cons_zero, List.set_cons_succ]
          refine wpAnyH_takeD (i := 12) (d := 41) (v := .int .u8 (b2.toNat : Int)) rfl (by kernel_rfl) (by kernel_rfl) (by kernel_rfl) (fun _ _ _ h => h) (Or.inl ⟨by rfl, by intro w hSw; (try dsimp only at hSw); go_simp⟩) (by assumption) rfl ?_
          simp only [Act.put, List.setIfInBounds_toArray, List.set_cons_zero, List.set_cons_succ]
          refine wpAnyH_takeD (i := 13) (d := 42) (v := .slice (some ⟨H, 0, none⟩) 8 capH) rfl (by kernel_rfl) (by kernel_rfl) (by kernel_rfl) (fun _ _ _ h => h) (Or.inl ⟨by rfl, by intro w hSw; (try dsimp only at hSw); go_simp⟩) (by assumption) rfl ?_
          simp only [Act.put, List.setIfInBounds_toArray, List.set_cons_zero, List.set_cons_succ]
          refine wpAnyH_takeD (i := 14) (d := 43) (v := .int .i64 (q : Int)) rfl (by kernel_rfl) (by kernel_rfl) (by kernel_rfl) (fun _ _ _ h => h) (Or.inl ⟨by rfl, by intro w hSw; (try dsimp only at hSw); go_simp⟩) (by assumption) rfl ?_
          simp only [Act.put, List.setIfInBounds_toArray, List.set_cons_zero, List.set_cons_succ]
          refine wpAnyH_takeD (i := 15) (d := 44) (v := .pointer (some ⟨H, q, none⟩)) rfl (by kernel_rfl) (by kernel_rfl) (by kernel_rfl) (fun _ _ _ h => h) (Or.inl ⟨by rfl, by intro w hSw; (try dsimp only at hSw); go_simp⟩) (by assumption) rfl ?_
          simp only [Act.put, List.setIfInBounds_toArray, List.set_cons_zero, List.set_cons_succ]
          refine wpAnyH_takeD (i := 16) (d := 45) (v := .int .u32 (wn x)) rfl (by kernel_rfl) (by kernel_rfl) (by kernel_rfl) (fun _ _ _ h => h) (Or.inl ⟨by rfl, by intro w hSw; (try dsimp only at hSw); go_simp⟩) (by assumption) rfl ?_
          simp only [Act.put, List.setIfInBounds_toArray, List.set_cons_zero, List.set_cons_succ]
          refine wpAnyH_takeD (i := 17) (d := 46) (v := .int .u32 (wn (x >>> 8))) rfl (by kernel_rfl) (by kernel_rfl) (by kernel_rfl) (fun _ _ _ h => h) (Or.inl ⟨by rfl, by intro w hSw; (try dsimp only at hSw); go_simp⟩) (by assumption) rfl ?_
          simp only [Act.put, List.setIfInBounds_toArray, List.set_cons_zero, List.set_cons_succ]
          refine wpAnyH_takeD (i := 18) (d := 47) (v := .int .u8 (b1.toNat : Int)) rfl (by kernel_rfl) (by kernel_rfl) (by kernel_rfl) (fun _ _ _ h => h) (Or.inl ⟨by rfl, by intro w hSw; (try dsimp only at hSw); go_simp⟩) (by assumption) rfl ?_
          simp only [Act.put, List.setIfInBounds_toArray, List.set_cons_zero, List.set_cons_succ]
          refine wpAnyH_takeD (i := 19) (d := 48) (v := .slice (some ⟨H, 0, none⟩) 8 capH) rfl (by kernel_rfl) (by kernel_rfl) (by kernel_rfl) (fun _ _ _ h => h) (Or.inl ⟨by rfl, by intro w hSw; (try dsimp only at hSw); go_simp⟩) (by assumption) rfl ?_
          simp only [Act.put, List.setIfInBounds_toArray, List.set_cons_zero, List.set_cons_succ]
          refine wpAnyH_takeD (i := 20) (d := 49) (v := .int .i64 (q : Int)) rfl (by kernel_rfl) (by kernel_rfl) (by kernel_rfl) (fun _ _ _ h => h) (Or.inl ⟨by rfl, by intro w hSw; (try dsimp only at hSw); go_simp⟩) (by assumption) rfl ?_
          simp only [Act.put, List.setIfInBounds_toArray, List.set_cons_zero, List.set_cons_succ]
          refine wpAnyH_takeD (i := 21) (d := 50) (v := .pointer (some ⟨H, q, none⟩)) rfl (by kernel_rfl) (by kernel_rfl) (by kernel_rfl) (fun _ _ _ h => h) (Or.inl ⟨by rfl, by intro w hSw; (try dsimp only at hSw); go_simp⟩) (by assumption) rfl ?_
          simp only [Act.put, List.setIfInBounds_toArray, List.set_cons_zero, List.set_cons_succ]
          refine wpAnyH_takeD (i := 22) (d := 51) (v := .int .u32 (wn x)) rfl (by kernel_rfl) (by kernel_rfl) (by kernel_rfl) (fun _ _ _ h => h) (Or.inl ⟨by rfl, by intro w hSw; (try dsimp only at hSw); go_simp⟩) (by assumption) rfl ?_
          simp only [Act.put, List.setIfInBounds_toArray, List.set_cons_zero, List.set_cons_succ]
          refine wpAnyH_takeD (i := 23) (d := 52) (v := .int .u8 (b0.toNat : Int)) rfl (by kernel_rfl) (by kernel_rfl) (by kernel_rfl) (fun _ _ _ h => h) (Or.inl ⟨by rfl, by intro w hSw; (try dsimp only at hSw); go_simp⟩) (by assumption) rfl ?_
          simp only [Act.put, List.setIfInBounds_toArray, List.set_cons_zero, List.set_cons_succ]
          refine wpAnyH_ready (rs := [24]) (by kernel_rfl) (by simp) ?_
          refine AllReadyH.cons rfl (fun K hK => ?_) AllReadyH.nil
          go_simp
          obtain ⟨w5, hw5⟩ : ∃ x, (World.drew wr).alloc (.cells #[.int .u8 (b3.toNat : Int), .int .u8 (b2.toNat : Int), .int .u8 (b1.toNat : Int), .int .u8 (b0.toNat : Int)] 5) = x := ⟨_, rfl⟩
          have D1 : Hid (Below wr.heap.size wr w5) := by rw [← hw5]; exact (Below.refl _ wr).drew.alloc (Nat.le_refl _) _
          have N1 : Hid (w5.heap[wr.heap.size]? = some (.cells #[.int .u8 (b3.toNat : Int), .int .u8 (b2.toNat : Int), .int .u8 (b1.toNat : Int), .int .u8 (b0.toNat : Int)] 5 (0, 0))) := by show _ = _; rw [← hw5]; exact heap_alloc_last (World.drew wr) _
          have D2 : Hid (Below wq.heap.size wq w5) := HL.out.trans (D1.out.mono HL.out.size)
          have y0 : w5.cell? ⟨H, q, none⟩ = some (.int .u32 (wn x)) := (D1.out.cell (p := ⟨H, q, none⟩) (Nat.lt_of_lt_of_le hHl HL.out.size)).trans cx
          have hdr : (World.alloc wr (.cells #[.int .u8 (b3.toNat : Int), .int .u8 (b2.toNat : Int), .int .u8 (b1.toNat : Int), .int .u8 (b0.toNat : Int)] 5)).drew = w5 := by rw [← hw5]; rfl
          first | rw [hdr] | rw [hw5]
          clear hw5 hdr
          refine hK.out _ _ ?_ (fun hHeld => ?_)
          · exact y0
          clear hK K
          try simp only [Act.put, List.setIfInBounds_toArray, List.set_cons_zero, List.set_cons_succ]
          refine wpAnyH_ready (rs := [25]) (by kernel_rfl) (by simp) ?_
          refine AllReadyH.cons rfl (fun K hK => ?_) AllReadyH.nil
          refine step_append_ownd rfl (.tmp 29) (.tmp 53) 22 rfl wq.heap.size 5 i3 (.int .u8 0) 1 1 Tryd.underlying22 hi3 hz3 hs3 hb3 rfl (by decide) u6 (4 * q) (Lib.byteCells (digestT (D.take q))) rfl (owns_below HQ.out D1.out) ⟨wr.heap.size, 0, none⟩ 4 4 (Lib.byteCells [b3, b2, b1, b0]) rfl rfl (news_cells N1.out) (four_one _ _ _ _) (by unfold maxLen; omega) (by omega) D2.out.size (d := 54) rfl ?_
          intro x6 w6 hown hgrow hnil6
          have HQ2 : Hid (Below wq.heap.size wq w6) := D2.out.trans (below_of_grown hgrow (fun z hz => ((owns_below HQ.out D1.out).lt z hz).1) D2.out.size)
          have HO2 : Hid (w6.ownsRow wq.heap.size 5 1 x6 (4 * (q + 1)) (Lib.byteCells (digestT (D.take (q + 1))))) := by show World.ownsRow _ _ _ _ _ _ _; rw [HST.out, Lib.byteCells_append, show 4 * (q + 1) = 4 * q + 4 by omega]; exact hown
          have z0 : w6.cell? ⟨H, q, none⟩ = some (.int .u32 (wn x)) := (HQ2.out.cell (p := ⟨H, q, none⟩) hHl).trans ((HL.out.cell (p := ⟨H, q, none⟩) hHl).symm.trans cx)
          clear hown hgrow hnil6
          refine hK.out _ _ ?_ (fun hHeld => ?_)
          · exact z0
          clear hK K
          try simp only [Act.put, List.setIfInBounds_toArray, List.set_cons_zero, List.set_cons_succ]
          refine wpAnyH_takeD (i := 26) (d := 6) (v := x6) rfl (by kernel_rfl) (by kernel_rfl) (by kernel_rfl) (fun _ _ _ h => h) (Or.inl ⟨by rfl, by intro w hSw; (try dsimp only at hSw); go_simp⟩) (by assumption) rfl ?_
          simp only [Act.put, List.setIfInBounds_toArray, List.set_cons_zero, List.set_cons_succ]
          refine wpAnyH_done (by kernel_rfl) ?_ _
          go_wp2
          go_roundw
          case rel => exact ⟨q + 1, by omega, by go_num, HO2.out, HQ2.out⟩
          case measure => simp [intOf] <;> omega
        · have hqe : q = 8 := by omega
          have hqn : ¬ ((q : Int) < 8) := by omega
          have HQ8 : wr.ownsRow wq.heap.size 5 1 u6 (digestT D).length (Lib.byteCells (digestT D)) := by
            have h1 := HQ.out
            rw [hqe, List.take_of_length_le (by omega)] at h1
            rw [digest_len, hDl]
            exact h1
          obtain ⟨gg, gc, rfl, _, _⟩ := World.ownsRow.form HQ8 (by rw [digest_len]; omega)
          have hcv := run_convert_bytes_back (P := Tryd.prog) wr 22 9 5 ⟨gg, 0, none⟩ gc (digestT D) Tryd.underlying22 Tryd.underlying5 Tryd.underlying9 (own_bytes448 HQ8)
          have HF : Hid (digestT D = digestT (bytesOf (sumW kAt iv0 s.data.toList))) := by show _ = _; rw [HV.out, HD.out]
          have HBF : Hid (Below w.heap.size w wr) := (HB1.out.trans (HB.out.mono (Nat.le_of_lt hz1))).trans (HL.out.mono (Nat.le_of_lt (Nat.lt_of_lt_of_le hz1 HB.out.size)))
          clear hqe HQ HQ8
          go_wp2
          go_ret
          exact ⟨ret_str448 (by rw [HF.out]), HBF.out⟩
end Go.Proofs.YtdjpeickokoclaaDoor
/-
  Figures of bytes: impl.inFigures, spec.l6Hex.
-/
namespace Go.Proofs.YtdjpeickokoclaaDoor
open Go.RowKit
set_option linter.unusedVariables false
def hexFig : ByteArray := ⟨#[48, 49, 50, 51, 52, 53, 54, 55, 56, 57, 97, 98, 99, 100, 101, 102]⟩
def figT (k : Nat) : UInt8 := hexFig.data.getD k 0
def hex2 (b : UInt8) : List UInt8 := [figT (b.toNat / 16), figT (b.toNat % 16)]
def hexT (l : List UInt8) : List UInt8 := l.flatMap hex2
theorem hex_len (l : List UInt8) : (hexT l).length = 2 * l.length := by
  induction l with
  | nil => rfl
  | cons a l ih => show (hex2 a ++ hexT l).length = _; rw [List.length_append, ih]; simp [hex2]; omega
theorem hex_next {l : List UInt8} {k : Nat} (h : k < l.length) : hexT (l.take (k + 1)) = hexT (l.take k) ++ [figT ((bAt l k).toNat / 16), figT ((bAt l k).toNat % 16)] := by
  rw [List.take_add_one, List.getElem?_eq_getElem h]
  have e : l[k] = bAt l k := by unfold bAt; rw [List.getD_eq_getElem?_getD, List.getElem?_eq_getElem h]; rfl
  rw [e]
  unfold hexT hex2
  simp
theorem and15 (b : UInt8) : bits .and .u8 (b.toNat : Int) 15 = ((b.toNat % 16 : Nat) : Int) := by
  have : ∀ m : Fin 256, bits .and .u8 ((m.val : Nat) : Int) 15 = ((m.val % 16 : Nat) : Int) := by decide +kernel
  exact this ⟨b.toNat, b.toNat_lt⟩
theorem str_at (s : ByteArray) {k : Nat} (h : k < s.size) : s[k] = bAt s.data.toList k := by
  unfold bAt
  rw [List.getD_eq_getElem?_getD, List.getElem?_eq_getElem (by simpa using h)]
  rfl
theorem run_fig (w : World) (kd : IntKind) (k : Nat) (hk : k < 16) : (Instr.index 9 (.string ⟨#[48, 49, 50, 51, 52, 53, 54, 55, 56, 57, 97, 98, 99, 100, 101, 102]⟩) (.int kd (k : Int))).run Tryd.prog w = .ok (.int .u8 ((figT k).toNat : Int)) w := by
  have h1 : ((⟨#[48, 49, 50, 51, 52, 53, 54, 55, 56, 57, 97, 98, 99, 100, 101, 102]⟩ : ByteArray)[k]?) = some (figT k) := by
    have h : ∀ m : Fin 16, ((⟨#[48, 49, 50, 51, 52, 53, 54, 55, 56, 57, 97, 98, 99, 100, 101, 102]⟩ : ByteArray)[m.val]?) = some (figT m.val) := by decide
    exact h ⟨k, hk⟩
  unfold Instr.index
  simp [Sem.run_bind, run_underlying Tryd.underlying9, asIntOf, h1, go_sem]
set_option maxRecDepth 100000 in
set_option maxHeartbeats 8000000 in
theorem inFigures_any (w : World) (s : ByteArray) (hs : s.size ≤ 2000000) :
    Calls Tryd.prog 32 #[.string s] w fun e w' => e = .returned (.string ⟨(hexT s.data.toList).toArray⟩) ∧ Below w.heap.size w w' := by
  obtain ⟨n, hn⟩ : ∃ n, s.size = n := ⟨_, rfl⟩
  have hnl : s.data.toList.length = n := hn
  obtain ⟨W1, hW1⟩ : ∃ W1, w.alloc (.cells #[.pointer none, .slice none 0 0] 82) = W1 := ⟨_, rfl⟩
  have B1 : Hid (Below w.heap.size w W1) := by show Below _ _ _; rw [← hW1]; exact (Below.refl _ _).alloc (Nat.le_refl _) _
  have I1 : Hid (Lib.IsBuilder 82 5 w.heap.size w.heap.size (Lib.byteCells (hexT (s.data.toList.take 0))) W1) := by show Lib.IsBuilder _ _ _ _ _ _; rw [← hW1]; exact .inl ⟨Nat.le_refl _, .slice none 0 0, Go.Deep.blk_alloc_new _ _, World.ownsRow_nil .., by simp [Value.ownBlock]⟩
  go_enter Tryd.func32, Tryd.ntmps32
  go_wp2_with fail
  try rw [hW1]
  clear hW1
  go_loopw [7] (fun i wr => ∃ (k : Nat), k ≤ n ∧ i = .int .i64 k ∧ Lib.IsBuilder 82 5 w.heap.size w.heap.size (Lib.byteCells (hexT (s.data.toList.take k))) wr ∧ Below w.heap.size w wr) (fun i _ => n - (intOf i).toNat)
  case atStart => exact ⟨0, Nat.zero_le _, rfl, I1.out, B1.out⟩
  case round =>
    clear I1 B1
    obtain ⟨k, hk, rfl, hbd, hbl⟩ := hrel
    have HBD : Hid (Lib.IsBuilder 82 5 w.heap.size w.heap.size (Lib.byteCells (hexT (s.data.toList.take k))) wr) := hbd
    have HBL : Hid (Below w.heap.size w wr) := hbl
    clear hbd hbl
    by_cases hlt : k < n
    · have hlt' : (k : Int) < (n : Int) := by omega
      have hks : k < s.size := by omega
      obtain ⟨b, hb⟩ : ∃ b, bAt s.data.toList k = b := ⟨_, rfl⟩
      have hsb : s[k] = b := by rw [← hb]; exact str_at s hks
      have HST : Hid (hexT (s.data.toList.take (k + 1)) = hexT (s.data.toList.take k) ++ [figT (b.toNat / 16), figT (b.toNat % 16)]) := by show _ = _; rw [hex_next (by omega), hb]
      have hbt := b.toNat_lt
      obtain ⟨q1, hq1⟩ : ∃ q, b.toNat / 16 = q := ⟨_, rfl⟩
      obtain ⟨q2, hq2⟩ : ∃ q, b.toNat % 16 = q := ⟨_, rfl⟩
      have e1 : (b.toNat : Int) / 16 = (q1 : Int) := by omega
      have e2 : bits .and .u8 (b.toNat : Int) 15 = (q2 : Int) := by rw [and15, hq2]
      have f1 := fun w' => run_fig w' .u8 q1 (by omega)
      have f2 := fun w' => run_fig w' .u8 q2 (by omega)
      rw [hq1, hq2] at HST
      have hl1 : (hexT (s.data.toList.take k)).length ≤ 4000000 := by rw [hex_len, List.length_take]; omega
      clear hb hq1 hq2
      go_wp2_with fail
      refine (writeByte_any w.heap.size w.heap.size _ (figT q1).toNat _ HBD.out (by rw [Lib.byteCells_length]; omega) HBL.out.size).mono ?_
      rintro e w1 ⟨rfl, hbd1, hbl1, _⟩
      have HBL1 : Hid (Below w.heap.size w w1) := HBL.out.trans hbl1
      have HBD1 : Hid (Lib.IsBuilder 82 5 w.heap.size w.heap.size (Lib.byteCells (hexT (s.data.toList.take k) ++ [figT q1])) w1) := by show Lib.IsBuilder _ _ _ _ _ _; rw [Lib.byteCells_append]; exact hbd1
      clear hbd1 hbl1
      go_wp2_with fail
      refine (writeByte_any w.heap.size w.heap.size _ (figT q2).toNat _ HBD1.out (by rw [Lib.byteCells_length, List.length_append]; simp; omega) HBL1.out.size).mono ?_
      rintro e w2 ⟨rfl, hbd2, hbl2, _⟩
      have HBL2 : Hid (Below w.heap.size w w2) := HBL1.out.trans hbl2
      have HBD2 : Hid (Lib.IsBuilder 82 5 w.heap.size w.heap.size (Lib.byteCells (hexT (s.data.toList.take (k + 1)))) w2) := by
        show Lib.IsBuilder _ _ _ _ _ _
        rw [HST.out, show ([figT q1, figT q2] : List UInt8) = [figT q1] ++ [figT q2] from rfl, ← List.append_assoc, Lib.byteCells_append]
        exact hbd2
      clear hbd2 hbl2
      go_wp2
      go_roundw
      case rel => exact ⟨k + 1, by omega, by go_num, HBD2.out, HBL2.out⟩
      case measure => simp [intOf]; omega
    · have hkn : k = n := by omega
      have HBE : Hid (Lib.IsBuilder 82 5 w.heap.size w.heap.size (Lib.byteCells (hexT s.data.toList)) wr) := by
        have h1 := HBD.out
        rw [hkn, List.take_of_length_le (by omega)] at h1
        exact h1
      have hlt' : ¬ ((k : Int) < (n : Int)) := by omega
      clear hkn HBD
      go_wp2_with fail
      refine (Tryd.Builder_String_any _ _ (hexT s.data.toList) _ HBE.out HBL.out.size).mono ?_
      rintro e w3 ⟨rfl, hb3⟩
      have HBL3 : Hid (Below w.heap.size w w3) := HBL.out.trans hb3
      clear hb3
      go_wp2
      go_ret
      exact ⟨rfl, HBL3.out⟩
set_option maxRecDepth 100000 in
set_option maxHeartbeats 8000000 in
theorem l6Hex_any (w : World) (s : ByteArray) (hs : s.size ≤ 1000) :
    Calls Tryd.prog 40 #[.string s] w fun e w' => e = .returned (.string ⟨(hexT s.data.toList).toArray⟩) ∧ Below w.heap.size w w' := by
  obtain ⟨i3, hi3, hz3, hs3, hb3⟩ := info_parts Tryd.info_u8b
  obtain ⟨n, hn⟩ : ∃ n, s.size = n := ⟨_, rfl⟩
  have hnl : s.data.toList.length = n := hn
  have HE : Hid ((w.alloc (.cells #[] 5)).ownsRow w.heap.size 5 1 (.slice (some ⟨w.heap.size, 0, none⟩) 0 0) 0 (Lib.byteCells (hexT (s.data.toList.take 0)))) := own_of_block (heap_alloc_last _ _) (Nat.le_refl _)
  have HE2 : Hid (Below w.heap.size w (w.alloc (.cells #[] 5))) := (Below.refl _ _).alloc (Nat.le_refl _) _
  go_enter Tryd.func40, Tryd.ntmps40
  go_wp2_with fail
  go_loopw [4, 5] (fun x i wr => ∃ (k : Nat), k ≤ n ∧ i = .int .i64 k ∧ wr.ownsRow w.heap.size 5 1 x (2 * k) (Lib.byteCells (hexT (s.data.toList.take k))) ∧ Below w.heap.size w wr) (fun _ i _ => n - (intOf i).toNat)
  case atStart => exact ⟨0, Nat.zero_le _, rfl, HE.out, HE2.out⟩
  case round =>
    clear HE HE2
    obtain ⟨k, hk, rfl, hown0, hbl⟩ := hrel
    have HQ : Hid (wr.ownsRow w.heap.size 5 1 u4 (2 * k) (Lib.byteCells (hexT (s.data.toList.take k)))) := hown0
    have HL : Hid (Below w.heap.size w wr) := hbl
    clear hown0 hbl
    by_cases hlt : k < n
    · have hlt' : (k : Int) < (n : Int) := by omega
      have hks : k < s.size := by omega
      obtain ⟨b, hb⟩ : ∃ b, bAt s.data.toList k = b := ⟨_, rfl⟩
      have hsb : s[k] = b := by rw [← hb]; exact str_at s hks
      have HST : Hid (hexT (s.data.toList.take (k + 1)) = hexT (s.data.toList.take k) ++ [figT (b.toNat / 16), figT (b.toNat % 16)]) := by show _ = _; rw [hex_next (by omega), hb]
      have hbt := b.toNat_lt
      obtain ⟨q1, hq1⟩ : ∃ q, b.toNat / 16 = q := ⟨_, rfl⟩
      obtain ⟨q2, hq2⟩ : ∃ q, b.toNat % 16 = q := ⟨_, rfl⟩
      have e1 : (b.toNat : Int) / 16 = (q1 : Int) := by omega
      have e2 : (b.toNat : Int) % 16 = (q2 : Int) := by omega
      have e1t : Int.tdiv (b.toNat : Int) 16 = (q1 : Int) := by rw [Int.tdiv_eq_ediv_of_nonneg (by omega)]; omega
      have e2t : Int.tmod (b.toNat : Int) 16 = (q2 : Int) := by rw [Int.tmod_eq_emod_of_nonneg (by omega)]; omega
      have w1' : IntKind.u8.wrap (q1 : Int) = (q1 : Int) := by simp [IntKind.wrap, IntKind.signed, IntKind.bits]; omega
      have w2' : IntKind.u8.wrap (q2 : Int) = (q2 : Int) := by simp [IntKind.wrap, IntKind.signed, IntKind.bits]; omega
      have f1 := fun w' => run_fig w' .u8 q1 (by omega)
      have f2 := fun w' => run_fig w' .u8 q2 (by omega)
      rw [hq1, hq2] at HST
      have hkm : k ≤ 1000 := by omega
      obtain ⟨c1, hc1⟩ : ∃ c, figT q1 = c := ⟨_, rfl⟩
      obtain ⟨c2, hc2⟩ : ∃ c, figT q2 = c := ⟨_, rfl⟩
      rw [hc1, hc2] at HST
      rw [hc1] at f1
      rw [hc2] at f2
      clear hb hq1 hq2 hc1 hc2
      go_wp2_with fail
      refine wp_region_held_drew (S := (fun _ => True)) (by kernel_rfl) ?_ (fun hHeld => ?_)
      · trivial
      refine wpAnyH_takeD (i := 0) (d := 13) (v := u4) rfl (by kernel_rfl) (by kernel_rfl) (by kernel_rfl) (fun _ _ _ h => h) (Or.inl ⟨by rfl, by intro w hSw; (try dsimp only at hSw); go_simp⟩) (by assumption) rfl ?_
      simp only [Act.put, List.setIfInBounds_toArray, List.set_cons_zero, List.set_cons_succ]
      refine wpAnyH_takeD (i := 1) (d := 14) (v := .string ⟨#[48, 49, 50, 51, 52, 53, 54, 55, 56, 57, 97, 98, 99, 100, 101, 102]⟩) rfl (by kernel_rfl) (by kernel_rfl) (by kernel_rfl) (fun _ _ _ h => h) (Or.inl ⟨by rfl, by intro w hSw; (try dsimp only at hSw); go_simp⟩) (by assumption) rfl ?_
      simp only [Act.put, List.setIfInBounds_toArray, List.set_cons_zero, List.set_cons_succ]
      refine wpAnyH_takeD (i := 2) (d := 15) (v := .string s) rfl (by kernel_rfl) (by kernel_rfl) (by kernel_rfl) (fun _ _ _ h => h) (Or.inl ⟨by rfl, by intro w hSw; (try dsimp only at hSw); go_simp⟩) (by assumption) rfl ?_
      simp only [Act.put, List.setIfInBounds_toArray, List.set_cons_zero, List.set_cons_succ]
      refine wpAnyH_takeD (i := 3) (d := 16) (v := .int .i64 (k : Int)) rfl (by kernel_rfl) (by kernel_rfl) (by kernel_rfl) (fun _ _ _ h => h) (Or.inl ⟨by rfl, by intro w hSw; (try dsimp only at hSw); go_simp⟩) (by assumption) rfl ?_
      simp only [Act.put, List.setIfInBounds_toArray, List.set_cons_zero, List.set_cons_succ]
      refine wpAnyH_takeD (i := 4) (d := 17) (v := .int .u8 (b.toNat : Int)) rfl (by kernel_rfl) (by kernel_rfl) (by kernel_rfl) (fun _ _ _ h => h) (Or.inl ⟨by rfl, by intro w hSw; (try dsimp only at hSw); go_simp⟩) (by assumption) rfl ?_
      simp only [Act.put, List.setIfInBounds_toArray, List.set_cons_zero, List.set_cons_succ]
      refine wpAnyH_takeD (i := 5) (d := 18) (v := .int .u8 (q1 : Int)) rfl (by kernel_rfl) (by kernel_rfl) (by kernel_rfl) (fun _ _ _ h => h) (Or.inl ⟨by rfl, by intro w hSw; (try dsimp only at hSw); go_simp⟩) (by assumption) rfl ?_
      simp only [Act.put, List.setIfInBounds_toArray, List.set_cons_zero, List.set_cons_succ]
      refine wpAnyH_takeD (i := 6) (d := 19) (v := .int .u8 (c1.toNat : Int)) rfl (by kernel_rfl) (by kernel_rfl) (by kernel_rfl) (fun _ _ _ h => h) (Or.inl ⟨by rfl, by intro w hSw; (try dsimp only at hSw); go_simp⟩) (by assumption) rfl ?_
      simp only [Act.put, List.setIfInBounds_toArray, List.set_cons_zero, List.set_cons_succ]
      refine wpAnyH_takeD (i := 7) (d := 20) (v := .string ⟨#[48, 49, 50, 51, 52, 53, 54, 55, 56, 57, 97, 98, 99, 100, 101, 102]⟩) rfl (by kernel_rfl) (by kernel_rfl) (by kernel_rfl) (fun _ _ _ h => h) (Or.inl ⟨by rfl, by intro w hSw; (try dsimp only at hSw); go_simp⟩) (by assumption) rfl ?_
      simp only [Act.put, List.setIfInBounds_toArray, List.set_cons_zero, List.set_cons_succ]
      refine wpAnyH_takeD (i := 8) (d := 21) (v := .string s) rfl (by kernel_rfl) (by kernel_rfl) (by kernel_rfl) (fun _ _ _ h => h) (Or.inl ⟨by rfl, by intro w hSw; (try dsimp only at hSw); go_simp⟩) (by assumption) rfl ?_
      simp only [Act.put, List.setIfInBounds_toArray, List.set_cons_zero, List.set_cons_succ]
      refine wpAnyH_takeD (i := 9) (d := 22) (v := .int .i64 (k : Int)) rfl (by kernel_rfl) (by kernel_rfl) (by kernel_rfl) (fun _ _ _ h => h) (Or.inl ⟨by rfl, by intro w hSw; (try dsimp only at hSw); go_simp⟩) (by assumption) rfl ?_
      simp only [Act.put, List.setIfInBounds_toArray, List.set_cons_zero, List.set_cons_succ]
      refine wpAnyH_takeD (i := 10) (d := 23) (v := .int .u8 (b.toNat : Int)) rfl (by kernel_rfl) (by kernel_rfl) (by kernel_rfl) (fun _ _ _ h => h) (Or.inl ⟨by rfl, by intro w hSw; (try dsimp only at hSw); go_simp⟩) (by assumption) rfl ?_
      simp only [Act.put, List.setIfInBounds_toArray, List.set_cons_zero, List.set_cons_succ]
      refine wpAnyH_takeD (i := 11) (d := 24) (v := .int .u8 (q2 : Int)) rfl (by kernel_rfl) (by kernel_rfl) (by kernel_rfl) (fun _ _ _ h => h) (Or.inl ⟨by rfl, by intro w hSw; (try dsimp only at hSw); go_simp⟩) (by assumption) rfl ?_
      simp only [Act.put, List.setIfInBounds_toArray, List.set_cons_zero, List.set_cons_succ]
      refine wpAnyH_takeD (i := 12) (d := 25) (v := .int .u8 (c2.toNat : Int)) rfl (by kernel_rfl) (by kernel_rfl) (by kernel_rfl) (fun _ _ _ h => h) (Or.inl ⟨by rfl, by intro w hSw; (try dsimp only at hSw); go_simp⟩) (by assumption) rfl ?_
      simp only [Act.put, List.setIfInBounds_toArray, List.set_cons_zero, List.set_cons_succ]
      refine wpAnyH_ready (rs := [13]) (by kernel_rfl) (by simp) ?_
      refine AllReadyH.cons rfl (fun K hK => ?_) AllReadyH.nil
      go_simp
      obtain ⟨w5, hw5⟩ : ∃ x, (World.drew wr).alloc (.cells #[.int .u8 (c1.toNat : Int), .int .u8 (c2.toNat : Int)] 5) = x := ⟨_, rfl⟩
      have D1 : Hid (Below wr.heap.size wr w5) := by rw [← hw5]; exact (Below.refl _ wr).drew.alloc (Nat.le_refl _) _
      have N1 : Hid (w5.heap[wr.heap.size]? = some (.cells #[.int .u8 (c1.toNat : Int), .int .u8 (c2.toNat : Int)] 5 (0, 0))) := by show _ = _; rw [← hw5]; exact heap_alloc_last (World.drew wr) _
      have D2 : Hid (Below w.heap.size w w5) := HL.out.trans (D1.out.mono HL.out.size)
      have hdr : (World.alloc wr (.cells #[.int .u8 (c1.toNat : Int), .int .u8 (c2.toNat : Int)] 5)).drew = w5 := by rw [← hw5]; rfl
      first | rw [hdr] | rw [hw5]
      clear hw5 hdr
      refine hK.out _ _ ?_ (fun hHeld => ?_)
      · trivial
      clear hK K
      try simp only [Act.put, List.setIfInBounds_toArray, List.set_cons_zero, List.set_cons_succ]
      refine wpAnyH_ready (rs := [14]) (by kernel_rfl) (by simp) ?_
      refine AllReadyH.cons rfl (fun K hK => ?_) AllReadyH.nil
      refine step_append_ownd rfl (.tmp 13) (.tmp 26) 22 rfl w.heap.size 5 i3 (.int .u8 0) 1 1 Tryd.underlying22 hi3 hz3 hs3 hb3 rfl (by decide) u4 (2 * k) (Lib.byteCells (hexT (s.data.toList.take k))) rfl (owns_below HQ.out D1.out) ⟨wr.heap.size, 0, none⟩ 2 2 (Lib.byteCells [c1, c2]) rfl rfl (news_cells N1.out) (Lib.byteCells_one _) (by unfold maxLen; omega) (by omega) D2.out.size (d := 27) rfl ?_
      intro x6 w6 hown hgrow hnil6
      have HQ2 : Hid (Below w.heap.size w w6) := D2.out.trans (below_of_grown hgrow (fun z hz => ((owns_below HQ.out D1.out).lt z hz).1) D2.out.size)
      have HO2 : Hid (w6.ownsRow w.heap.size 5 1 x6 (2 * (k + 1)) (Lib.byteCells (hexT (s.data.toList.take (k + 1))))) := by show World.ownsRow _ _ _ _ _ _ _; rw [HST.out, Lib.byteCells_append, show 2 * (k + 1) = 2 * k + 2 by omega]; exact hown
      clear hown hgrow hnil6
      refine hK.out _ _ ?_ (fun hHeld => ?_)
      · trivial
      clear hK K
      try simp only [Act.put, List.setIfInBounds_toArray, List.set_cons_zero, List.set_cons_succ]
      refine wpAnyH_takeD (i := 15) (d := 4) (v := x6) rfl (by kernel_rfl) (by kernel_rfl) (by kernel_rfl) (fun _ _ _ h => h) (Or.inl ⟨by rfl, by intro w hSw; (try dsimp only at hSw); go_simp⟩) (by assumption) rfl ?_
      simp only [Act.put, List.setIfInBounds_toArray, List.set_cons_zero, List.set_cons_succ]
      refine wpAnyH_done (by kernel_rfl) ?_ _
      go_wp2
      go_roundw
      case rel => exact ⟨k + 1, by omega, by go_num, HO2.out, HQ2.out⟩
      case measure => simp [intOf]; omega
    · have hke : k = n := by omega
      have hlt' : ¬ ((k : Int) < (n : Int)) := by omega
      have HQ8 : wr.ownsRow w.heap.size 5 1 u4 (hexT s.data.toList).length (Lib.byteCells (hexT s.data.toList)) := by
        have h1 := HQ.out
        rw [hke, List.take_of_length_le (by omega)] at h1
        rw [hex_len, hnl]
        exact h1
      by_cases hn0 : n = 0
      · have hnil : hexT s.data.toList = [] := List.length_eq_zero_iff.1 (by rw [hex_len]; omega)
        have HNIL : Hid (hexT s.data.toList = []) := hnil
        rw [hnil, List.length_nil] at HQ8
        rcases HQ8.2 with ⟨hv, _⟩ | ⟨gg, gc, cur, hv, _⟩
        · subst hv
          have hcv := run_convert_bytes_nil (P := Tryd.prog) (w := wr) 22 5 Tryd.underlying22 Tryd.underlying5 0 0 9 Tryd.underlying9
          clear hke HQ HQ8 hnil
          go_wp2
          go_ret
          exact ⟨ret_str448 (by rw [HNIL.out]; rfl), HL.out⟩
        · subst hv
          have hcv : (convert 22 9 (.slice (some ⟨gg, 0, none⟩) 0 gc)).run Tryd.prog wr = .ok (.string ⟨#[]⟩) wr := run_convert_bytes_back (P := Tryd.prog) wr 22 9 5 ⟨gg, 0, none⟩ gc [] Tryd.underlying22 Tryd.underlying5 Tryd.underlying9 (fun j hj => absurd hj (Nat.not_lt_zero _))
          clear hke HQ HQ8 hnil
          go_wp2
          go_ret
          exact ⟨ret_str448 (by rw [HNIL.out]), HL.out⟩
      · obtain ⟨gg, gc, rfl, _, _⟩ := World.ownsRow.form HQ8 (by rw [hex_len]; omega)
        have hcv := run_convert_bytes_back (P := Tryd.prog) wr 22 9 5 ⟨gg, 0, none⟩ gc (hexT s.data.toList) Tryd.underlying22 Tryd.underlying5 Tryd.underlying9 (own_bytes448 HQ8)
        clear hke HQ HQ8
        go_wp2
        go_ret
        exact ⟨rfl, HL.out⟩
end Go.Proofs.YtdjpeickokoclaaDoor
/-
  The sum of a text by both, and the law FnExactHashSum.
-/
namespace Go.Proofs.YtdjpeickokoclaaDoor
open Go.RowKit
set_option linter.unusedVariables false
end Go.Proofs.YtdjpeickokoclaaDoor
/-
  A key filled up to a block, each byte under a mask: impl.paddedKey, spec.l6Pad.
-/
namespace Go.Proofs.YtdjpeickokoclaaDoor
open Go.RowKit
set_option linter.unusedVariables false
/-- A key under a mask, a whole block. -/
def kxT (key : List UInt8) (m : UInt8) : List UInt8 := (List.range 64).map fun i => bAt key i ^^^ m
theorem kxT_len (key : List UInt8) (m : UInt8) : (kxT key m).length = 64 := by simp [kxT]
theorem kxT_at (key : List UInt8) (m : UInt8) {i : Nat} (h : i < 64) : bAt (kxT key m) i = bAt key i ^^^ m := by
  unfold bAt kxT
  rw [List.getD_eq_getElem?_getD, List.getElem?_map, List.getElem?_range h]
  rfl
theorem kxT_next (key : List UInt8) (m : UInt8) {k : Nat} (h : k < 64) : (kxT key m).take (k + 1) = (kxT key m).take k ++ [bAt key k ^^^ m] := by
  rw [List.take_add_one, List.getElem?_eq_getElem (by rw [kxT_len]; exact h)]
  have e : (kxT key m)[k]'(by rw [kxT_len]; exact h) = bAt key k ^^^ m := by
    rw [← kxT_at key m h]
    unfold bAt
    rw [List.getD_eq_getElem?_getD, List.getElem?_eq_getElem (by rw [kxT_len]; exact h)]
    rfl
  rw [e]
  rfl
theorem u8_xor (a b : UInt8) : bits .xor .u8 (a.toNat : Int) (b.toNat : Int) = ((a ^^^ b).toNat : Int) := by
  have h : ∀ c : UInt8, BitVec.ofInt 8 (c.toNat : Int) = c.toBitVec := fun c => by
    rw [BitVec.ofInt_natCast]
    exact BitVec.eq_of_toNat_eq (by simp)
  show IntKind.u8.wrap ((BitVec.ofInt 8 (a.toNat : Int) ^^^ BitVec.ofInt 8 (b.toNat : Int)).toNat : Int) = _
  rw [h, h]
  have h2 : (a.toBitVec ^^^ b.toBitVec).toNat = (a ^^^ b).toNat := by simp
  rw [h2]
  have h3 := (a ^^^ b).toNat_lt
  generalize (a ^^^ b).toNat = c at h3
  simp [IntKind.wrap, IntKind.signed, IntKind.bits]
  omega
theorem bAt_out {l : List UInt8} {i : Nat} (h : l.length ≤ i) : bAt l i = 0 := by
  unfold bAt
  rw [List.getD_eq_getElem?_getD, List.getElem?_eq_none h]
  rfl
theorem run_slice_all454 (w : World) (b : Nat) : (Instr.sliceAt 74 (.pointer (some ⟨b, 0, none⟩)) none none none).run Tryd.prog w = .ok (.slice (some ⟨b, 0, none⟩) 64 64) w := by
  obtain ⟨i, hi, hz, hs, hb⟩ := info_parts Tryd.info_u8b
  simp [Instr.sliceAt, Sem.run_bind, run_underlying Tryd.underlying74, Instr.sureAddr, Instr.sliceBounds, sizeOf, typeInfo, hi, go_sem]
/-- What a copy into a block of noughts leaves. -/
theorem copied_at (key : List UInt8) {m : Nat} (hm : key.length = m) (hm64 : m ≤ 64) {i : Nat} (hi : i < 64) :
    (Lib.byteCells (List.replicate 64 0)).take 0 ++ Lib.byteCells (key.take m) ++ (Lib.byteCells (List.replicate 64 0)).drop (0 + m) = Lib.byteCells (key ++ List.replicate (64 - m) 0) := by
  rw [List.take_zero, List.nil_append, List.take_of_length_le (by omega), Lib.byteCells_append, Nat.zero_add]
  congr 1
  unfold Lib.byteCells
  rw [← List.map_drop, List.drop_replicate]
theorem filled_at (key : List UInt8) {m : Nat} (hm : key.length = m) (hm64 : m ≤ 64) {i : Nat} (hi : i < 64) : (Lib.byteCells (key ++ List.replicate (64 - m) 0)).toArray[i]? = some (.int .u8 ((bAt key i).toNat : Int)) := by
  rw [List.getElem?_toArray]
  unfold Lib.byteCells
  rw [List.getElem?_map]
  by_cases h : i < key.length
  · rw [List.getElem?_append_left h, List.getElem?_eq_getElem h]
    have e : bAt key i = key[i] := by unfold bAt; rw [List.getD_eq_getElem?_getD, List.getElem?_eq_getElem h]; rfl
    rw [e]
    rfl
  · rw [List.getElem?_append_right (by omega), List.getElem?_replicate, if_pos (by omega), bAt_out (by omega)]
    rfl
set_option maxRecDepth 100000 in
set_option maxHeartbeats 8000000 in
theorem paddedKey_any (w : World) (key : ByteArray) (m : UInt8) (hk64 : key.size ≤ 64) :
    Calls Tryd.prog 31 #[.string key, .int .u8 (m.toNat : Int)] w fun e w' => e = .returned (.string ⟨(kxT key.data.toList m).toArray⟩) ∧ Below w.heap.size w w' := by
  have HUB : Hid (Tryd.prog.underlying 22 = _) := Tryd.underlying22
  have HSB : Hid ((Tryd.prog.info? 5).map (·.size) = some 1) := Tryd.size_byte
  obtain ⟨n, hn⟩ : ∃ n, key.size = n := ⟨_, rfl⟩
  have hnl : key.data.toList.length = n := hn
  have HM : Hid (Nat.min key.size 64 = n) := by show _ = _; rw [hn]; exact Nat.min_eq_left (by omega)
  obtain ⟨Z, hZ⟩ : ∃ Z, (Lib.byteCells (List.replicate 64 0)).toArray = Z := ⟨_, rfl⟩
  have hsl := fun w' => run_slice_all454 w' w.heap.size
  obtain ⟨W0, hW0⟩ : ∃ x, w.alloc (.cells Z 74) = x := ⟨_, rfl⟩
  have H0 : Hid (W0.heap[w.heap.size]? = some (.cells Z 74 (0, 0))) := by show _ = _; rw [← hW0]; exact heap_alloc_last w _
  have L0 : Hid (Below w.heap.size w W0) := by show Below _ _ _; rw [← hW0]; exact (Below.refl _ _).alloc (Nat.le_refl _) _
  obtain ⟨W1, hW1⟩ : ∃ x, W0.setRow w.heap.size (Z.toList.take 0 ++ Lib.byteCells (key.data.toList.take n) ++ Z.toList.drop (0 + n)).toArray = x := ⟨_, rfl⟩
  have H1 : Hid (W1.rowIs w.heap.size 74 64 (fun j => .int .u8 ((bAt key.data.toList j).toNat : Int))) := by
    refine ⟨(Lib.byteCells (key.data.toList ++ List.replicate (64 - n) 0)).toArray, ?_, by simp [Lib.byteCells_length]; omega, fun i hi => filled_at key.data.toList hnl (by omega) hi⟩
    rw [← hW1, setRow_heap _ _ _ _ _ _ H0.out]
    have e := copied_at key.data.toList hnl (by omega) (i := 0) (by omega)
    rw [← hZ]
    show some (Obj.cells ((Lib.byteCells (List.replicate 64 0)).take 0 ++ Lib.byteCells (key.data.toList.take n) ++ (Lib.byteCells (List.replicate 64 0)).drop (0 + n)).toArray _ _) = _
    rw [e]
  have L1 : Hid (Below w.heap.size w W1) := by show Below _ _ _; rw [← hW1]; exact below_setRow L0.out (Nat.le_refl _) _
  have HF : Hid (0 + n ≤ Z.size) := by show _ ≤ _; rw [← hZ]; simp [Lib.byteCells_length]; omega
  have HZ : Hid (Z = (Lib.byteCells (List.replicate 64 0)).toArray) := hZ.symm
  go_enter Tryd.func31, Tryd.ntmps31
  have hzz : (Lib.byteCells (List.replicate 64 0)).toArray = #[.int .u8 0, .int .u8 0, .int .u8 0, .int .u8 0, .int .u8 0, .int .u8 0, .int .u8 0, .int .u8 0, .int .u8 0, .int .u8 0, .int .u8 0, .int .u8 0, .int .u8 0, .int .u8 0, .int .u8 0, .int .u8 0, .int .u8 0, .int .u8 0, .int .u8 0, .int .u8 0, .int .u8 0, .int .u8 0, .int .u8 0, .int .u8 0, .int .u8 0, .int .u8 0, .int .u8 0, .int .u8 0, .int .u8 0, .int .u8 0, .int .u8 0, .int .u8 0, .int .u8 0, .int .u8 0, .int .u8 0, .int .u8 0, .int .u8 0, .int .u8 0, .int .u8 0, .int .u8 0, .int .u8 0, .int .u8 0, .int .u8 0, .int .u8 0, .int .u8 0, .int .u8 0, .int .u8 0, .int .u8 0, .int .u8 0, .int .u8 0, .int .u8 0, .int .u8 0, .int .u8 0, .int .u8 0, .int .u8 0, .int .u8 0, .int .u8 0, .int .u8 0, .int .u8 0, .int .u8 0, .int .u8 0, .int .u8 0, .int .u8 0, .int .u8 0] := rfl
  have HZZ : Hid (#[.int .u8 0, .int .u8 0, .int .u8 0, .int .u8 0, .int .u8 0, .int .u8 0, .int .u8 0, .int .u8 0, .int .u8 0, .int .u8 0, .int .u8 0, .int .u8 0, .int .u8 0, .int .u8 0, .int .u8 0, .int .u8 0, .int .u8 0, .int .u8 0, .int .u8 0, .int .u8 0, .int .u8 0, .int .u8 0, .int .u8 0, .int .u8 0, .int .u8 0, .int .u8 0, .int .u8 0, .int .u8 0, .int .u8 0, .int .u8 0, .int .u8 0, .int .u8 0, .int .u8 0, .int .u8 0, .int .u8 0, .int .u8 0, .int .u8 0, .int .u8 0, .int .u8 0, .int .u8 0, .int .u8 0, .int .u8 0, .int .u8 0, .int .u8 0, .int .u8 0, .int .u8 0, .int .u8 0, .int .u8 0, .int .u8 0, .int .u8 0, .int .u8 0, .int .u8 0, .int .u8 0, .int .u8 0, .int .u8 0, .int .u8 0, .int .u8 0, .int .u8 0, .int .u8 0, .int .u8 0, .int .u8 0, .int .u8 0, .int .u8 0, .int .u8 0] = Z) := by rw [← hzz]; exact hZ
  have HW0 : Hid (w.alloc (.cells Z 74) = W0) := hW0
  have HW1 : Hid (W0.setRow w.heap.size (Z.toList.take 0 ++ Lib.byteCells (key.data.toList.take n) ++ Z.toList.drop (0 + n)).toArray = W1) := hW1
  clear hZ hzz hW0 hW1
  go_wp2_with fail
  rw [HZZ.out, HW0.out, run_copy_cut (P := Tryd.prog) W0 22 9 3 5 w.heap.size 0 64 64 key n HM.out Z 74 HUB.out HSB.out H0.out HF.out, HW1.out]
  simp only [Result.andThen]
  rw [Oper.upon_value]
  go_wp2_with fail
  go_loopw [10] (fun i wr => ∃ (k : Nat) (f : Nat → Value), k ≤ 64 ∧ i = .int .i64 k ∧ wr.rowIs w.heap.size 74 64 f ∧ (∀ j, j < 64 → f j = .int .u8 ((if j < k then bAt key.data.toList j ^^^ m else bAt key.data.toList j).toNat : Int)) ∧ Below w.heap.size w wr) (fun i _ => 64 - (intOf i).toNat)
  case atStart => exact ⟨0, _, Nat.zero_le _, rfl, H1.out, fun j hj => by rw [if_neg (by omega)], L1.out⟩
  case round =>
    clear H1 L1 HZZ HW0 HW1 HZ HF H0 L0
    obtain ⟨k, f, hk, rfl, hrow, hf, hl⟩ := hrel
    have HROW : Hid (wr.rowIs w.heap.size 74 64 f) := hrow
    have HF : Hid (∀ j, j < 64 → f j = .int .u8 ((if j < k then bAt key.data.toList j ^^^ m else bAt key.data.toList j).toNat : Int)) := hf
    have HL : Hid (Below w.heap.size w wr) := hl
    clear hrow hf hl
    by_cases hlt : k < 64
    · have hlt' : (k : Int) < 64 := by omega
      obtain ⟨c, hc⟩ : ∃ c, bAt key.data.toList k = c := ⟨_, rfl⟩
      have cx : wr.cell? ⟨w.heap.size, k, none⟩ = some (.int .u8 (c.toNat : Int)) := by rw [HROW.out.cell hlt, HF.out k hlt, if_neg (by omega), hc]
      have fx : wr.frozen? ⟨w.heap.size, k, none⟩ = false := HROW.out.frozen k
      have hx := u8_xor c m
      have HC : Hid (bAt key.data.toList k = c) := hc
      clear hc
      go_wp2_with fail
      go_roundw
      case rel =>
        refine ⟨k + 1, _, by omega, by go_num, HROW.out.set k _, fun j hj => ?_, HL.out.setCell (p := ⟨w.heap.size, k, none⟩) (Nat.le_refl _) _⟩
        by_cases e : j = k
        · rw [if_pos e, e, if_pos (by omega), HC.out, UInt8.toNat_xor]
        · rw [if_neg e, HF.out j hj]
          by_cases e2 : j < k
          · rw [if_pos e2, if_pos (by omega)]
          · rw [if_neg e2, if_neg (by omega)]
      case measure => simp [intOf]; omega
    · have hke : k = 64 := by omega
      have hkn : ¬ ((k : Int) < 64) := by omega
      have hcv0 := run_convert_bytes_back (P := Tryd.prog) wr 22 9 5 ⟨w.heap.size, 0, none⟩ 64 (kxT key.data.toList m) Tryd.underlying22 Tryd.underlying5 Tryd.underlying9 (fun j hj => by
        have hj2 : j < 64 := by rw [kxT_len] at hj; exact hj
        have hadd : (⟨w.heap.size, 0, none⟩ : Addr).add j = ⟨w.heap.size, j, none⟩ := by unfold Addr.add; split <;> simp_all
        rw [hadd, HROW.out.cell hj2, HF.out j hj2, if_pos (by omega), ← kxT_at key.data.toList m hj2]
        have e : (kxT key.data.toList m)[j] = bAt (kxT key.data.toList m) j := by unfold bAt; rw [List.getD_eq_getElem?_getD, List.getElem?_eq_getElem hj]; rfl
        exact congrArg (fun b : UInt8 => some (Value.int IntKind.u8 (b.toNat : Int))) e.symm)
      rw [kxT_len] at hcv0
      clear hke
      go_wp2
      go_ret
      exact ⟨rfl, HL.out⟩
set_option maxRecDepth 100000 in
set_option maxHeartbeats 8000000 in
theorem l6Pad_any (w : World) (key : ByteArray) (m : UInt8) (hk64 : key.size ≤ 64) :
    Calls Tryd.prog 42 #[.string key, .int .u8 (m.toNat : Int)] w fun e w' => e = .returned (.string ⟨(kxT key.data.toList m).toArray⟩) ∧ Below w.heap.size w w' := by
  obtain ⟨i3, hi3, hz3, hs3, hb3⟩ := info_parts Tryd.info_u8b
  obtain ⟨n, hn⟩ : ∃ n, key.size = n := ⟨_, rfl⟩
  have hnl : key.data.toList.length = n := hn
  have HE : Hid (BRow (w.alloc (.cells #[] 5)) w.heap.size w.heap.size 0 0 []) := ⟨Nat.le_refl _, by simp, rfl, Nat.le_refl _, fun j hj => absurd hj (Nat.not_lt_zero _), fun j hj => absurd hj (Nat.not_lt_zero _)⟩
  have HE2 : Hid (Below w.heap.size w (w.alloc (.cells #[] 5))) := (Below.refl _ _).alloc (Nat.le_refl _) _
  have hx0 : bits .xor .u8 0 (m.toNat : Int) = (((0 : UInt8) ^^^ m).toNat : Int) := u8_xor 0 m
  go_enter Tryd.func42, Tryd.ntmps42
  go_wp2_with fail
  go_loopw [5, 6] (fun x i wr => ∃ (k g cap : Nat), k ≤ 64 ∧ i = .int .i64 k ∧ x = .slice (some ⟨g, 0, none⟩) k cap ∧ BRow wr w.heap.size g k cap ((kxT key.data.toList m).take k) ∧ Below w.heap.size w wr) (fun _ i _ => 64 - (intOf i).toNat)
  case atStart => exact ⟨0, w.heap.size, 0, Nat.zero_le _, rfl, rfl, HE.out, HE2.out⟩
  case round =>
    clear HE HE2
    obtain ⟨k, g, cap, hk, rfl, rfl, hr, hl⟩ := hrel
    have HR : Hid (BRow wr w.heap.size g k cap ((kxT key.data.toList m).take k)) := hr
    have HL : Hid (Below w.heap.size w wr) := hl
    clear hr hl
    by_cases hlt : k < 64
    · have hlt' : (k : Int) < 64 := by omega
      obtain ⟨c, hc⟩ : ∃ c, bAt key.data.toList k ^^^ m = c := ⟨_, rfl⟩
      have HT : Hid ((kxT key.data.toList m).take (k + 1) = (kxT key.data.toList m).take k ++ [c]) := by show _ = _; rw [kxT_next _ _ hlt, hc]
      have HA : Hid (BRow (wr.alloc (.cells #[.int .u8 (c.toNat : Int)] 5)) w.heap.size g k cap ((kxT key.data.toList m).take k)) := HR.out.below ((Below.refl _ _).alloc (Nat.le_refl _) _)
      have HC : Hid ((wr.alloc (.cells #[.int .u8 (c.toNat : Int)] 5)).cell? ⟨wr.heap.size, 0, none⟩ = some (.int .u8 (c.toNat : Int))) := by show _ = _; rw [cell_of_row _ _ 0 _ _ _ (heap_alloc_last wr _)]; rfl
      have HBA : Hid (Below w.heap.size w (wr.alloc (.cells #[.int .u8 (c.toNat : Int)] 5))) := HL.out.alloc HL.out.size _
      by_cases hkn : k < n
      · have hkn' : (k : Int) < (n : Int) := by omega
        have hks : k < key.size := by omega
        obtain ⟨b, hb⟩ : ∃ b, bAt key.data.toList k = b := ⟨_, rfl⟩
        have hsb : key[k] = b := by rw [← hb]; exact str_at key hks
        have hx : bits .xor .u8 (b.toNat : Int) (m.toNat : Int) = (c.toNat : Int) := by rw [u8_xor, ← hb, hc]
        clear hb hc
        go_wp2_with (at_builtin; refine wpList_append_byte rfl _ _ 22 rfl 5 i3 Tryd.underlying22 hi3 hz3 hs3 hb3 w.heap.size g k cap _ rfl HA.out (by omega) HBA.out.size wr.heap.size 1 c rfl HC.out (d := 25) rfl ?_; intro g2 cap2 w2 hr2 hb2)
        have HR3 : Hid (BRow w2 w.heap.size g2 (k + 1) cap2 ((kxT key.data.toList m).take (k + 1))) := by show BRow _ _ _ _ _ _; rw [HT.out]; exact hr2
        have HB3 : Hid (Below w.heap.size w w2) := HBA.out.trans hb2
        clear hr2 hb2
        go_roundw
        case rel => exact ⟨k + 1, g2, cap2, by omega, by go_num, rfl, HR3.out, HB3.out⟩
        case measure => simp [intOf] <;> omega
      · have hkn' : ¬ ((k : Int) < (n : Int)) := by omega
        have hx : bits .xor .u8 0 (m.toNat : Int) = (c.toNat : Int) := by rw [hx0, ← hc, bAt_out (by omega)]
        clear hc hx0
        go_wp2_with (at_builtin; refine wpList_append_byte rfl _ _ 22 rfl 5 i3 Tryd.underlying22 hi3 hz3 hs3 hb3 w.heap.size g k cap _ rfl HA.out (by omega) HBA.out.size wr.heap.size 1 c rfl HC.out (d := 25) rfl ?_; intro g2 cap2 w2 hr2 hb2)
        have HR3 : Hid (BRow w2 w.heap.size g2 (k + 1) cap2 ((kxT key.data.toList m).take (k + 1))) := by show BRow _ _ _ _ _ _; rw [HT.out]; exact hr2
        have HB3 : Hid (Below w.heap.size w w2) := HBA.out.trans hb2
        clear hr2 hb2
        go_roundw
        case rel => exact ⟨k + 1, g2, cap2, by omega, by go_num, rfl, HR3.out, HB3.out⟩
        case measure => simp [intOf] <;> omega
    · have hke : k = 64 := by omega
      have hkn : ¬ ((k : Int) < 64) := by omega
      have hcv0 := run_convert_bytes_back (P := Tryd.prog) wr 22 9 5 ⟨g, 0, none⟩ cap (kxT key.data.toList m) Tryd.underlying22 Tryd.underlying5 Tryd.underlying9 (fun j hj => by
        have hj2 : j < 64 := by rw [kxT_len] at hj; exact hj
        have hadd : (⟨g, 0, none⟩ : Addr).add j = ⟨g, j, none⟩ := by unfold Addr.add; split <;> simp_all
        rw [hadd, HR.out.cells j (by omega), hke, List.take_of_length_le (by rw [kxT_len]; omega)]
        have e : (kxT key.data.toList m)[j] = bAt (kxT key.data.toList m) j := by unfold bAt; rw [List.getD_eq_getElem?_getD, List.getElem?_eq_getElem hj]; rfl
        exact congrArg (fun b : UInt8 => some (Value.int IntKind.u8 (b.toNat : Int))) e.symm)
      rw [kxT_len, ← hke] at hcv0
      clear hke
      go_wp2
      go_ret
      exact ⟨rfl, HL.out⟩
end Go.Proofs.YtdjpeickokoclaaDoor
/-
  The seal of a text by both, and the law FnExactSealOf.
-/
namespace Go.Proofs.YtdjpeickokoclaaDoor
open Go.RowKit
set_option linter.unusedVariables false
def digB (l : List UInt8) : List UInt8 := digestT (bytesOf (sumW kAt iv0 l))
theorem digB_len (l : List UInt8) : (digB l).length = 32 := by unfold digB; rw [digest_len]; rfl
/-- The seal of a text by a key. -/
def sealT (key text : ByteArray) : ByteArray := if keyT key then ⟨(hexT (digB (kxT key.data.toList 92 ++ digB (kxT key.data.toList 54 ++ text.data.toList)))).toArray⟩ else ⟨#[]⟩
theorem keyT_size {key : ByteArray} (h : keyT key = true) : key.size ≤ 64 := by
  rcases Nat.lt_or_ge 64 key.size with h1 | h1
  · rw [keyT_long h1] at h
    cases h
  · exact h1
theorem str_list (l : List UInt8) : (⟨l.toArray⟩ : ByteArray).data.toList = l := rfl
theorem str_sz (l : List UInt8) : (⟨l.toArray⟩ : ByteArray).size = l.length := by simp [ByteArray.size]
theorem two_at {w : World} {x y : ByteArray} : ∀ i z, [x, y][i]? = some z → (w.alloc (.cells #[.string x, .string y] 9)).cell? ⟨w.heap.size, i, none⟩ = some (.string z) := fun i z hz => by
  rw [cell_of_row _ _ i _ _ _ (heap_alloc_last w _)]
  match i, hz with
  | 0, hz => simp at hz; subst hz; rfl
  | 1, hz => simp at hz; subst hz; rfl
set_option maxHeartbeats 2000000 in
theorem implSealOf_any (w : World) (key text : ByteArray) (hk : key.size ≤ maxLen) (hs : text.size ≤ 1900000) (hR : roundTab w) (hF : firstTab w) :
    Calls Tryd.prog 10 #[.string key, .string text] w fun e w' => e = .returned (.string (sealT key text)) ∧ Below w.heap.size w w' := by
  have HR : Hid (roundTab w) := hR
  have HF : Hid (firstTab w) := hF
  clear hR hF
  have HK : Hid (key.size ≤ maxLen) := hk
  clear hk
  cases hkt : keyT key with
  | false =>
    have HS : Hid (sealT key text = ⟨#[]⟩) := by show _ = _; unfold sealT; rw [hkt]; rfl
    go_enter Tryd.func10, Tryd.ntmps10
    go_wp2_with fail
    refine (keyOk_any key _ HK.out).mono ?_
    rintro e w1 ⟨rfl, he1⟩
    rw [he1, hkt]
    go_wp2
    go_ret
    exact ⟨ret_str448 (by rw [HS.out]), Below.refl _ _⟩
  | true =>
    have hk64 := keyT_size hkt
    have P54 : ∀ w, Calls Tryd.prog 31 #[.string key, .int .u8 54] w fun e w' => e = .returned (.string ⟨(kxT key.data.toList 54).toArray⟩) ∧ Below w.heap.size w w' := fun w => paddedKey_any w key 54 hk64
    have P92 : ∀ w, Calls Tryd.prog 31 #[.string key, .int .u8 92] w fun e w' => e = .returned (.string ⟨(kxT key.data.toList 92).toArray⟩) ∧ Below w.heap.size w w' := fun w => paddedKey_any w key 92 hk64
    have H54 : Hid (∀ w, Calls Tryd.prog 31 #[.string key, .int .u8 54] w fun e w' => e = .returned (.string ⟨(kxT key.data.toList 54).toArray⟩) ∧ Below w.heap.size w w') := P54
    have H92 : Hid (∀ w, Calls Tryd.prog 31 #[.string key, .int .u8 92] w fun e w' => e = .returned (.string ⟨(kxT key.data.toList 92).toArray⟩) ∧ Below w.heap.size w w') := P92
    obtain ⟨p54, h54⟩ : ∃ p, (⟨(kxT key.data.toList 54).toArray⟩ : ByteArray) = p := ⟨_, rfl⟩
    obtain ⟨p92, h92⟩ : ∃ p, (⟨(kxT key.data.toList 92).toArray⟩ : ByteArray) = p := ⟨_, rfl⟩
    have s54 : p54.size ≤ 2000000 := by rw [← h54, str_sz, kxT_len]; omega
    have s92 : p92.size ≤ 2000000 := by rw [← h92, str_sz, kxT_len]; omega
    have HJ1 : Hid (joinP [p54, text] = kxT key.data.toList 54 ++ text.data.toList) := by show _ = _; rw [← h54]; simp [joinP]
    have HJ2 : Hid (∀ d : List UInt8, joinP [p92, ⟨d.toArray⟩] = kxT key.data.toList 92 ++ d) := by show ∀ d, _ = _; intro d; rw [← h92]; simp [joinP]
    have HS : Hid (sealT key text = ⟨(hexT (digB (kxT key.data.toList 92 ++ digB (kxT key.data.toList 54 ++ text.data.toList)))).toArray⟩) := by show _ = _; unfold sealT; rw [if_pos hkt]
    rw [h54] at H54
    rw [h92] at H92
    clear P54 P92 h54 h92
    go_enter Tryd.func10, Tryd.ntmps10
    go_wp2_with fail
    refine (keyOk_any key _ HK.out).mono ?_
    rintro e w1 ⟨rfl, he1⟩
    rw [he1, hkt]
    clear he1 w1 hkt
    go_wp2_with fail
    refine (H54.out _).mono ?_
    rintro e w2 ⟨rfl, hb2⟩
    have B2 : Hid (Below w.heap.size w (w2.alloc (.cells #[.string p54, .string text] 9))) := hb2.alloc hb2.size _
    have C2 : Hid (∀ i z, [p54, text][i]? = some z → (w2.alloc (.cells #[.string p54, .string text] 9)).cell? ⟨w2.heap.size, i, none⟩ = some (.string z)) := two_at
    clear hb2
    go_wp2_with fail
    refine (sumOf_any _ w2.heap.size 2 2 [p54, text] rfl C2.out (by simp) (by omega) (fun x hx => by simp at hx; rcases hx with rfl | rfl <;> omega) (HR.out.below B2.out) (HF.out.below B2.out)).mono ?_
    rintro e w3 ⟨rfl, hb3⟩
    have B3 : Hid (Below w.heap.size w w3) := B2.out.trans (hb3.mono B2.out.size)
    obtain ⟨d1, hd1⟩ : ∃ d, digestT (bytesOf (sumW kAt iv0 (joinP [p54, text]))) = d := ⟨_, rfl⟩
    have HD1 : Hid (d1 = digB (kxT key.data.toList 54 ++ text.data.toList)) := by show _ = _; rw [← hd1, HJ1.out]; rfl
    have hdl1 : d1.length = 32 := by rw [HD1.out, digB_len]
    rw [hd1]
    clear hb3 hd1 C2 B2
    go_wp2_with fail
    refine (H92.out _).mono ?_
    rintro e w4 ⟨rfl, hb4⟩
    obtain ⟨q1, hq1⟩ : ∃ q, (⟨d1.toArray⟩ : ByteArray) = q := ⟨_, rfl⟩
    have hq1s : q1.size ≤ 2000000 := by rw [← hq1, str_sz, hdl1]; omega
    have B4 : Hid (Below w.heap.size w (w4.alloc (.cells #[.string p92, .string q1] 9))) := (B3.out.trans (hb4.mono B3.out.size)).alloc (Nat.le_trans B3.out.size hb4.size) _
    have C4 : Hid (∀ i z, [p92, q1][i]? = some z → (w4.alloc (.cells #[.string p92, .string q1] 9)).cell? ⟨w4.heap.size, i, none⟩ = some (.string z)) := two_at
    have HJ3 : Hid (joinP [p92, q1] = kxT key.data.toList 92 ++ d1) := by show _ = _; rw [← hq1]; exact HJ2.out d1
    rw [hq1]
    clear hb4 hq1
    go_wp2_with fail
    refine (sumOf_any _ w4.heap.size 2 2 [p92, q1] rfl C4.out (by simp) (by omega) (fun x hx => by simp at hx; rcases hx with rfl | rfl <;> omega) (HR.out.below B4.out) (HF.out.below B4.out)).mono ?_
    rintro e w5 ⟨rfl, hb5⟩
    have B5 : Hid (Below w.heap.size w w5) := B4.out.trans (hb5.mono B4.out.size)
    have HD2 : Hid (digestT (bytesOf (sumW kAt iv0 (joinP [p92, q1]))) = digB (kxT key.data.toList 92 ++ digB (kxT key.data.toList 54 ++ text.data.toList))) := by show _ = _; rw [HJ3.out, HD1.out]; rfl
    rw [HD2.out]
    clear hb5 C4 B4
    go_wp2_with fail
    refine (inFigures_any _ _ (by rw [str_sz, digB_len]; omega)).mono ?_
    rintro e w6 ⟨rfl, hb6⟩
    have B6 : Hid (Below w.heap.size w w6) := B5.out.trans (hb6.mono B5.out.size)
    clear hb6
    go_wp2
    go_ret
    exact ⟨ret_str448 (by rw [HS.out]), B6.out⟩
set_option maxHeartbeats 2000000 in
theorem specSealOf_any (w : World) (key text : ByteArray) (hk : key.size ≤ maxLen) (hs : text.size ≤ 1900000) :
    Calls Tryd.prog 21 #[.string key, .string text] w fun e w' => e = .returned (.string (sealT key text)) ∧ Below w.heap.size w w' := by
  have HK : Hid (key.size ≤ maxLen) := hk
  clear hk
  cases hkt : keyT key with
  | false =>
    have HS : Hid (sealT key text = ⟨#[]⟩) := by show _ = _; unfold sealT; rw [hkt]; rfl
    go_enter Tryd.func21, Tryd.ntmps21
    go_wp2_with fail
    refine (l6Key_any key _ HK.out).mono ?_
    rintro e w1 ⟨rfl, hb1⟩
    have HB1 : Hid (Below w.heap.size w w1) := by first | exact hb1 | (rw [hb1]; exact Below.refl _ _)
    clear hb1
    rw [hkt]
    go_wp2
    go_ret
    exact ⟨ret_str448 (by rw [HS.out]), HB1.out⟩
  | true =>
    have hk64 := keyT_size hkt
    have P54 : ∀ w, Calls Tryd.prog 42 #[.string key, .int .u8 54] w fun e w' => e = .returned (.string ⟨(kxT key.data.toList 54).toArray⟩) ∧ Below w.heap.size w w' := fun w => l6Pad_any w key 54 hk64
    have P92 : ∀ w, Calls Tryd.prog 42 #[.string key, .int .u8 92] w fun e w' => e = .returned (.string ⟨(kxT key.data.toList 92).toArray⟩) ∧ Below w.heap.size w w' := fun w => l6Pad_any w key 92 hk64
    have H54 : Hid (∀ w, Calls Tryd.prog 42 #[.string key, .int .u8 54] w fun e w' => e = .returned (.string ⟨(kxT key.data.toList 54).toArray⟩) ∧ Below w.heap.size w w') := P54
    have H92 : Hid (∀ w, Calls Tryd.prog 42 #[.string key, .int .u8 92] w fun e w' => e = .returned (.string ⟨(kxT key.data.toList 92).toArray⟩) ∧ Below w.heap.size w w') := P92
    obtain ⟨p54, h54⟩ : ∃ p, (⟨(kxT key.data.toList 54).toArray⟩ : ByteArray) = p := ⟨_, rfl⟩
    obtain ⟨p92, h92⟩ : ∃ p, (⟨(kxT key.data.toList 92).toArray⟩ : ByteArray) = p := ⟨_, rfl⟩
    have s54 : p54.size = 64 := by rw [← h54, str_sz, kxT_len]
    have s92 : p92.size = 64 := by rw [← h92, str_sz, kxT_len]
    have D54 : Hid (p54.data.toList = kxT key.data.toList 54) := by show _ = _; rw [← h54]
    have D92 : Hid (p92.data.toList = kxT key.data.toList 92) := by show _ = _; rw [← h92]
    have HS : Hid (sealT key text = ⟨(hexT (digB (kxT key.data.toList 92 ++ digB (kxT key.data.toList 54 ++ text.data.toList)))).toArray⟩) := by show _ = _; unfold sealT; rw [if_pos hkt]
    rw [h54] at H54
    rw [h92] at H92
    clear P54 P92 h54 h92
    go_enter Tryd.func21, Tryd.ntmps21
    go_wp2_with fail
    refine (l6Key_any key _ HK.out).mono ?_
    rintro e w1 ⟨rfl, hb1⟩
    have B1 : Hid (Below w.heap.size w w1) := by first | exact hb1 | (rw [hb1]; exact Below.refl _ _)
    clear hb1
    rw [hkt]
    clear hkt
    go_wp2_with fail
    refine (H92.out _).mono ?_
    rintro e w2 ⟨rfl, hb2⟩
    have B2 : Hid (Below w.heap.size w w2) := B1.out.trans (hb2.mono B1.out.size)
    clear hb2
    go_wp2_with fail
    refine (H54.out _).mono ?_
    rintro e w3 ⟨rfl, hb3⟩
    have B3 : Hid (Below w.heap.size w w3) := B2.out.trans (hb3.mono B2.out.size)
    clear hb3
    go_wp2_with fail
    refine (l6Sum_any _ (p54 ++ text) (by rw [ByteArray.size_append]; omega)).mono ?_
    rintro e w4 ⟨rfl, hb4⟩
    have B4 : Hid (Below w.heap.size w w4) := B3.out.trans (hb4.mono B3.out.size)
    obtain ⟨q1, hq1⟩ : ∃ q, (⟨(digestT (bytesOf (sumW kAt iv0 (p54 ++ text).data.toList))).toArray⟩ : ByteArray) = q := ⟨_, rfl⟩
    have hq1s : q1.size = 32 := by rw [← hq1, str_sz, digest_len]; rfl
    have HQ1 : Hid (q1.data.toList = digB (kxT key.data.toList 54 ++ text.data.toList)) := by
      show _ = _
      rw [← hq1, str_list]
      unfold digB
      rw [ByteArray.data_append, Array.toList_append, D54.out]
    rw [hq1]
    clear hb4 hq1
    go_wp2_with fail
    refine (l6Sum_any _ (p92 ++ q1) (by rw [ByteArray.size_append]; omega)).mono ?_
    rintro e w5 ⟨rfl, hb5⟩
    have B5 : Hid (Below w.heap.size w w5) := B4.out.trans (hb5.mono B4.out.size)
    have HD2 : Hid (digestT (bytesOf (sumW kAt iv0 (p92 ++ q1).data.toList)) = digB (kxT key.data.toList 92 ++ digB (kxT key.data.toList 54 ++ text.data.toList))) := by
      show _ = _
      rw [ByteArray.data_append, Array.toList_append, D92.out, HQ1.out]
      rfl
    rw [HD2.out]
    clear hb5
    go_wp2_with fail
    refine (l6Hex_any _ _ (by rw [str_sz, digB_len]; omega)).mono ?_
    rintro e w6 ⟨rfl, hb6⟩
    have B6 : Hid (Below w.heap.size w w6) := B5.out.trans (hb6.mono B5.out.size)
    clear hb6
    go_wp2
    go_ret
    exact ⟨ret_str448 (by rw [HS.out]), B6.out⟩
end Go.Proofs.YtdjpeickokoclaaDoor
