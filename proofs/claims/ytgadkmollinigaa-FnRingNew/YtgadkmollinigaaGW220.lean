/-
  Drawn words: a reader over a code; what l13Word and l13AnyWord draw; the law FnWordOk.
-/
import Derived.Test.YtgadkmollinigaaGW2
import Derived.Test.YtgadkmollinigaaW8
import Derived.Test.YtgadkmollinigaaW11
namespace Go.Proofs.Ytgadkmollinigaa
open Go.RowKit
set_option linter.unusedVariables false
/-- What the walk is told of a slice of integers that came in. -/
def IsRow (k : IntKind) (w : World) (a : Option Addr) (len cap : Nat) (zs : List Int) : Prop :=
  (a = none ∧ len = 0 ∧ cap = 0 ∧ zs = []) ∨
  ∃ x, a = some x ∧ len ≤ cap ∧ cap ≤ maxLen ∧ zs.length = cap ∧ (∀ i, i < zs.length → w.cell? (x.add i) = some (.int k (zs.getD i 0))) ∧ ∀ n ∈ zs, (Lit.int k n).wf = true
theorem add_at (b o j : Nat) : (⟨b, o, none⟩ : Addr).add j = ⟨b, o + j, none⟩ := by unfold Addr.add; split <;> simp_all
theorem wf_u8_bounds {n : Int} (h : (Lit.int .u8 n).wf = true) : 0 ≤ n ∧ n ≤ 255 := by
  simpa [Lit.wf, IntKind.min, IntKind.max, IntKind.signed, IntKind.bits] using h
/-- A row of bytes read by a new reader. -/
theorem rd_start (w : World) (a : Option Addr) (len len' cap : Nat) (zs : List Int) (h : IsRow .u8 w a len cap zs) (hl : len' ≤ len) (h2 : len' ≤ 2000) :
    RdAt (w.alloc (.cells #[.slice a len' cap, .int .i64 0] 51)) w.heap.size 0 := by
  refine ⟨a, len', cap, by rw [heap_alloc_last]; rfl, h2, ?_⟩
  rcases h with ⟨rfl, rfl, rfl, rfl⟩ | ⟨x, rfl, hlc, hm, hz, hcell, hwz⟩
  · left; omega
  · by_cases h0 : len' = 0
    · exact .inl h0
    · right
      obtain ⟨b, off, spot⟩ := x
      have hc := hcell 0 (by omega)
      have hspot : spot = none := by simpa [Addr.add] using World.cell?_spot hc
      subst hspot
      have hb : b < w.heap.size := by
        rcases Nat.lt_or_ge b w.heap.size with hlt | hge
        · exact hlt
        · unfold World.cell? at hc
          rw [show ((⟨b, off, none⟩ : Addr).add 0).block = b from rfl, Array.getElem?_eq_none hge] at hc
          simp at hc
      refine ⟨b, off, rfl, hb, fun i hi => ⟨zs.getD i 0, ?_, ?_⟩⟩
      · have := hcell i (by omega)
        rw [add_at] at this
        rw [← this]
        exact ((Below.refl w.heap.size w).alloc (Nat.le_refl _) _).cell (p := ⟨b, off + i, none⟩) hb
      · apply wf_u8_bounds
        apply hwz
        rw [List.getD_eq_getElem?_getD, List.getElem?_eq_getElem (by omega)]
        simp
set_option maxHeartbeats 400000 in
theorem open_any (w : World) (a : Option Addr) (len cap : Nat) (zs : List Int) (h : IsRow .u8 w a len cap zs) :
    Calls Try.prog 20 #[.slice a len cap] w fun e w' => e = .returned (.pointer (some ⟨w.heap.size, 0, none⟩)) ∧ RdAt w' w.heap.size 0 ∧ Below w.heap.size w w' := by
  have HI : Hid (IsRow .u8 w a len cap zs) := h
  by_cases hl : (2000 : Int) < (len : Int)
  · rcases h with ⟨rfl, rfl, rfl, rfl⟩ | ⟨x, rfl, hlc, hm, hz, hcell, hwz⟩
    · simp at hl
    · have hcap : ¬ (cap : Int) < 2000 := by omega
      have hcap2 : 2000 ≤ cap := by omega
      have HS : Hid _ := rd_start w (some x) len 2000 cap zs HI.out (by omega) (Nat.le_refl _)
      clear hcell hwz
      go_enter Try.func20, Try.ntmps20
      go_wp2
      go_ret
      exact ⟨rfl, HS, (Below.refl _ _).alloc (Nat.le_refl _) _⟩
  · have HS : Hid _ := rd_start w a len len cap zs HI.out (Nat.le_refl _) (by omega)
    clear h
    go_enter Try.func20, Try.ntmps20
    go_wp2
    go_ret
    exact ⟨rfl, HS, (Below.refl _ _).alloc (Nat.le_refl _) _⟩
/-- A drawn word: what it may be. -/
def Drawn (s : ByteArray) : Prop := s.size ≤ 20
theorem size_append (a b : ByteArray) : (a ++ b).size = a.size + b.size := by simp
/-- Texts of at most so many bytes. -/
def shortV (m : Nat) : Value → Bool
  | .string s => decide (s.size ≤ m)
  | _ => false
theorem lit_texts (m : Nat) (w : World) (cs : Array Value) (t : TypeId) (h : cs.all (shortV m) = true) : ∀ i, i < cs.size → ∃ s : ByteArray, (w.alloc (.cells cs t)).cell? ⟨w.heap.size, i, none⟩ = some (.string s) ∧ s.size ≤ m := by
  intro i hi
  rw [cell_of_row _ _ i cs t (0, 0) (heap_alloc_last w _), Array.getElem?_eq_getElem hi]
  have := (Array.all_eq_true.1 h) i hi
  revert this
  generalize cs[i] = v
  intro hv
  unfold shortV at hv
  split at hv
  · next s => exact ⟨s, rfl, by simpa using hv⟩
  · cases hv
theorem wok_letter (s : ByteArray) (i : Nat) (hi : i < s.size) (h : wok s = true) : wok (s.extract i (i + 1)) = true := by
  unfold wok at h ⊢
  simp only [Bool.and_eq_true, decide_eq_true_eq] at h ⊢
  have hsz : (s.extract i (i + 1)).size = 1 := by simp; omega
  refine ⟨by omega, ?_, by omega⟩
  have e : (s.extract i (i + 1)).data.toList = (s.data.toList.drop i).take 1 := by
    simp
  rw [e]
  have ha := h.2.1
  unfold inr at ha ⊢
  rw [List.all_eq_true] at ha ⊢
  intro c hc
  exact ha c (List.mem_of_mem_drop (List.mem_of_mem_take hc))
theorem wok_empty : wok ⟨#[]⟩ = false := by decide
end Go.Proofs.Ytgadkmollinigaa
/-
  A client that begins is ok.
-/
namespace Go.Proofs.Ytgadkmollinigaa
open Go.RowKit
set_option linter.unusedVariables false
set_option maxHeartbeats 1000000 in
theorem l1Many_any (s : ByteArray) (n : Nat) (w : World) (hs : s.size ≤ 1000) (hn : s.size * n ≤ 1000) (hn2 : n ≤ 100000) :
    Calls Try.prog 26 #[.string s, .int .i64 n] w fun e w' => ∃ t : ByteArray, e = .returned (.string t) ∧ t.size ≤ s.size * n ∧ w' = w := by
  have HN : Hid (s.size * n ≤ 1000) := hn
  clear hn
  go_enter Try.func26, Try.ntmps26
  go_wp2
  go_loopw [0, 1, 5] (fun sv nv ov wr => ∃ (u o : ByteArray) (m : Nat), sv = .string u ∧ nv = .int .i64 m ∧ ov = .string o ∧ m ≤ 100000 ∧ u.size ≤ 2000 ∧ o.size + u.size * m ≤ s.size * n ∧ wr = w) (fun _ nv _ _ => (intOf nv).toNat)
  case atStart => exact ⟨s, ⟨#[]⟩, n, rfl, rfl, rfl, hn2, by omega, by show 0 + _ ≤ _; omega, rfl⟩
  case round =>
    obtain ⟨u, o, m, rfl, rfl, rfl, hm9, hu, ho, hw⟩ := hrel
    subst hw
    have HO : Hid (o.size + u.size * m ≤ s.size * n) := ho
    have ho2 : o.size ≤ 1000 := by have := HN.out; have := Nat.zero_le (u.size * m); omega
    clear ho
    by_cases hm : 0 < m
    · have hm1 : (0 : Int) < (m : Int) := by omega
      have hu2 : u.size ≤ 1000 := by
        have h1 := HO.out
        have h2 := HN.out
        have h3 : u.size * 1 ≤ u.size * m := Nat.mul_le_mul_left _ hm
        omega
      obtain ⟨q, hq⟩ : ∃ q : Nat, q = m / 2 := ⟨_, rfl⟩
      have hq9 : q ≤ 100000 := by omega
      have hqm : q < m := by omega
      have d1 : (m : Int).tdiv 2 = (q : Int) := by rw [hq]; rfl
      have d2 : (m : Int) / 2 = (q : Int) := by rw [hq]; rfl
      by_cases hodd : m % 2 = 1
      · have r1 : (m : Int).tmod 2 = 1 := by have : (m : Int).tmod 2 = ((m % 2 : Nat) : Int) := rfl; rw [this, hodd]; rfl
        have r2 : (m : Int) % 2 = 1 := by omega
        have HE : Hid (o.size + u.size + (u.size + u.size) * q ≤ s.size * n) := by
          show _ ≤ _
          have h1 := HO.out
          have h2 : m = 2 * q + 1 := by omega
          rw [h2, Nat.mul_add, Nat.mul_one, ← Nat.mul_assoc, Nat.mul_comm u.size 2, Nat.mul_assoc] at h1
          rw [← Nat.two_mul, Nat.mul_assoc]
          omega
        clear hq
        go_wp2
        go_roundw
        case rel => exact ⟨u ++ u, o ++ u, q, rfl, by go_num, rfl, hq9, by rw [ByteArray.size_append]; omega, by rw [ByteArray.size_append, ByteArray.size_append]; exact HE.out, by first | rfl | trivial⟩
        case measure => simp [intOf]; omega
      · have r1 : (m : Int).tmod 2 = 0 := by have : (m : Int).tmod 2 = ((m % 2 : Nat) : Int) := rfl; rw [this, show m % 2 = 0 by omega]; rfl
        have r2 : (m : Int) % 2 = 0 := by omega
        have HE : Hid (o.size + (u.size + u.size) * q ≤ s.size * n) := by
          show _ ≤ _
          have h1 := HO.out
          have h2 : m = 2 * q := by omega
          rw [h2, ← Nat.mul_assoc, Nat.mul_comm u.size 2, Nat.mul_assoc] at h1
          rw [← Nat.two_mul, Nat.mul_assoc]
          omega
        clear hq
        go_wp2
        go_roundw
        case rel => exact ⟨u ++ u, o, q, rfl, by go_num, rfl, hq9, by rw [ByteArray.size_append]; omega, by rw [ByteArray.size_append]; exact HE.out, by first | rfl | trivial⟩
        case measure => simp [intOf]; omega
    · have hm0 : m = 0 := by omega
      subst hm0
      go_wp2
      go_ret
      exact ⟨o, rfl, by have := HO.out; omega, rfl⟩
set_option maxHeartbeats 1000000 in
theorem drawClientNew_any (w : World) (a : Option Addr) (len cap : Nat) (zs : List Int) (h : IsRow .u8 w a len cap zs) :
    Calls Try.prog 14 #[.slice a len cap] w fun e w' => ∃ s : ByteArray, e = .returned (.string s) ∧ s.size ≤ 65 ∧ Below w.heap.size w w' := by
  have HI : Hid (IsRow .u8 w a len cap zs) := h
  clear h
  go_enter Try.func14, Try.ntmps14
  go_wp2_with fail
  refine (open_any w a len cap zs HI.out).mono ?_
  rintro e w1 ⟨rfl, hr1, hb1⟩
  have HR1 : Hid (RdAt w1 w.heap.size 0) := hr1
  have HB1 : Hid (Below w.heap.size w w1) := hb1
  clear hr1 hb1
  go_wp2_with fail
  refine (l1Many_any ⟨#[107]⟩ 65 w1 (by decide) (by decide) (by decide)).mono ?_
  rintro e w2 ⟨t, rfl, ht, he⟩
  rw [he]
  clear he
  have ht2 : t.size ≤ 65 := by have : (ByteArray.mk #[107]).size * 65 = 65 := rfl; omega
  have HL : Hid (∀ i, i < 4 → ∃ s : ByteArray, (w1.alloc (.cells #[.string ⟨#[107, 101, 121]⟩, .string ⟨#[]⟩, .string ⟨#[107]⟩, .string t] 9)).cell? ⟨w1.heap.size, i, none⟩ = some (.string s) ∧ s.size ≤ 65) := by
    intro i hi
    have hb := heap_alloc_last w1 (.cells #[.string ⟨#[107, 101, 121]⟩, .string ⟨#[]⟩, .string ⟨#[107]⟩, .string t] 9)
    match i, hi with
    | 0, _ => exact ⟨_, by rw [cell_of_row _ _ 0 _ _ _ hb]; rfl, by decide⟩
    | 1, _ => exact ⟨_, by rw [cell_of_row _ _ 1 _ _ _ hb]; rfl, by decide⟩
    | 2, _ => exact ⟨_, by rw [cell_of_row _ _ 2 _ _ _ hb]; rfl, by decide⟩
    | 3, _ => exact ⟨t, by rw [cell_of_row _ _ 3 _ _ _ hb]; rfl, ht2⟩
  go_wp2_with fail
  refine (of_any (fun s => s.size ≤ 65) _ w.heap.size 0 w1.heap.size 4 4 (HR1.out.alloc _) (by omega) (by omega) (by omega) HL.out (by have := HR1.out.lt; omega)).mono ?_
  rintro e w3 ⟨s, rfl, hs, -, hk3⟩
  have HB3 : Hid (Below w.heap.size w w3) := (Kept.trans ((Kept.refl w.heap.size w1).alloc _) hk3).below HB1.out (Nat.le_refl _)
  clear hk3
  go_wp2
  go_ret
  exact ⟨s, rfl, hs, HB3.out⟩
end Go.Proofs.Ytgadkmollinigaa
