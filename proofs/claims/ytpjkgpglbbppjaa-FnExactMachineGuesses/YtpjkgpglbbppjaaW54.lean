/-
  (impl.State).to, impl.walk and its closure.
-/
import Derived.Test.YtpjkgpglbbppjaaW45
import Derived.Test.YtpjkgpglbbppjaaM22
namespace Go.Proofs.Ytpjkgpglbbppjaa
open Go.RowKit
set_option linter.unusedVariables false
set_option maxHeartbeats 1000000 in
theorem to_any (w : World) (b : Bool) (v : Value) (es : List (Int × Int)) (c : Nat) (first last : Int) (h : EdgesIn 0 w v es) (hok : edsOk first last es = true) (hc8 : c ≤ 255) :
    Calls Try.prog 46 #[.agg #[.bool b, v], .int .u8 c] w fun e w' => e = .returned (.int .i64 (lastT es c)) ∧ Below w.heap.size w w' := by
  obtain ⟨a, cap, rfl, hc, hm⟩ := h.form
  have HS : Hid (EdgesIn 0 w (.slice a es.length cap) es) := h
  have HO : Hid (edsOk first last es = true) := hok
  clear h hok
  unfold maxLen at hm
  go_enter Try.func46, Try.ntmps46
  go_wp2
  go_loopw [10] (fun i wr => ∃ (k : Nat), k ≤ es.length ∧ i = .int .i64 k ∧ lastT (es.take k) c = -1 ∧ Below w.heap.size w wr) (fun i _ => es.length - (intOf i).toNat)
  case atStart => exact ⟨0, Nat.zero_le _, rfl, rfl, (Below.refl _ _).alloc (Nat.le_refl _) _⟩
  case round =>
    obtain ⟨k, hk, rfl, hl, hb⟩ := hrel
    have HL : Hid (lastT (es.take k) c = -1) := hl
    have HB : Hid (Below w.heap.size w wr) := hb
    clear hl hb
    by_cases hlt : k < es.length
    · obtain ⟨b', off, cap', e, hv, _, _, hbl, he, c1, c2⟩ := (HS.out.below HB.out).at hlt
      cases hv
      have HX : Hid (es[k]? = some e) := he
      obtain ⟨l, t⟩ := e
      simp only at c1 c2
      clear he
      by_cases hlc : l = (c : Int)
      · have HR : Hid (lastT es c = t) := lastT_found HO.out HX.out hlc
        subst hlc
        go_wp2
        go_ret
        rw [HR.out]
        exact ⟨rfl, HB.out.alloc HB.out.size _⟩
      · have HR : Hid (lastT (es.take (k + 1)) c = -1) := by show lastT (es.take (k + 1)) c = -1; rw [lastT_take HX.out, if_neg hlc]; exact HL.out
        go_wp2
        go_roundw
        case rel => exact ⟨k + 1, by omega, by go_num, HR.out, HB.out.alloc HB.out.size _⟩
        case measure => simp [intOf]; omega
    · have HR : Hid (lastT es c = -1) := by show lastT es c = -1; rw [← HL.out, List.take_of_length_le (by omega)]
      go_wp2
      go_ret
      rw [HR.out]
      exact ⟨rfl, HB.out⟩
set_option maxHeartbeats 1000000 in
theorem walk1_any (w : World) (P Q : Nat) (v : Value) (ss : List Sta) (a : Int) (c : Nat) (h : StatesAt w v ss) (hok : stasOk ss = true) (hm : w.cell? ⟨Q, 0, none⟩ = some v)
    (ha : w.cell? ⟨P, 0, none⟩ = some (.int .i64 a)) (hf : w.frozen? ⟨P, 0, none⟩ = false) (hp : placeOk ss a) (hP : P < w.heap.size) (hc8 : c ≤ 255) :
    Calls Try.prog 45 #[.int .u8 c, .pointer (some ⟨P, 0, none⟩), .pointer (some ⟨Q, 0, none⟩)] w fun e w' =>
      e = .returned (.int .i64 (goT ss a c)) ∧ w'.cell? ⟨P, 0, none⟩ = some (.int .i64 (goT ss a c)) ∧ w'.frozen? ⟨P, 0, none⟩ = false ∧ Below P w w' := by
  obtain ⟨sa, cap, rfl, hc, hmx⟩ := h.form
  have HS : Hid (StatesAt w (.slice sa ss.length cap) ss) := h
  have HO : Hid (stasOk ss = true) := hok
  clear h hok
  unfold maxLen at hmx
  rcases hp with rfl | ⟨p, rfl, hpl⟩
  · have HG : Hid (goT ss (-1) c = -1) := goT_neg ss (by omega) _
    go_enter Try.func45, Try.ntmps45
    go_wp2
    go_ret
    rw [HG.out]
    exact ⟨rfl, ha, hf, Below.refl _ _⟩
  · obtain ⟨b', off, cap', s, ev, hv, _, _, hbl, hs, c1, c2, hev⟩ := HS.out.at hpl
    cases hv
    have HG : Hid (goT ss p c = lastT s.es c) := goT_at hs _
    have HE : Hid (EdgesIn 0 w ev s.es) := hev
    have HD : Hid (edsOk (p + 1) ss.length s.es = true) := staOk_es (stasOk_at HO.out hs)
    have hp0 : (p : Int) ≥ 0 := by omega
    clear hs hev
    go_enter Try.func45, Try.ntmps45
    go_wp2_with fail
    refine (to_any _ _ _ s.es c _ _ HE.out HD.out hc8).mono ?_
    rintro e w' ⟨rfl, hb'⟩
    have HB : Hid (Below P w w') := hb'.mono (by omega)
    have ha' : w'.cell? ⟨P, 0, none⟩ = some (.int .i64 p) := (hb'.cell (p := ⟨P, 0, none⟩) hP).trans ha
    have hf' : w'.frozen? ⟨P, 0, none⟩ = false := (hb'.frozen (p := ⟨P, 0, none⟩) hP).trans hf
    clear hb' ha hf c1 c2 hm
    go_wp2
    go_ret
    rw [HG.out]
    refine ⟨rfl, ?_, ?_, HB.out.setCell (Nat.le_refl _) _⟩
    · exact World.cell?_setCell_same' _ _ _ (by rw [ha']; rfl)
    · rw [World.frozen?_setCell]; exact hf'
end Go.Proofs.Ytpjkgpglbbppjaa
