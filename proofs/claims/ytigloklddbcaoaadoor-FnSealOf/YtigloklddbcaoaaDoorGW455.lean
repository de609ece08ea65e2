/-
  The sum of a text of three letters, and a seal, told word by word.
-/
import Derived.Test.YtigloklddbcaoaaDoorGLSealOf
import Derived.Test.YtigloklddbcaoaaDoorGW220
import Derived.KernelRfl
namespace Go.Proofs.YtigloklddbcaoaaDoor
open Go.RowKit
set_option linter.unusedVariables false
theorem sched_keep48 (bs : List UInt8) {i k : Nat} (h : i < k) (hk : k ≤ 64) : wAt (schedTo bs k) i = wAt (schedTo bs 64) i := by
  have := schedTo_keep bs h (64 - k)
  rw [show k + (64 - k) = 64 by omega] at this
  exact this.symm
theorem sched_lo48 (bs : List UInt8) (k : Nat) (h : k < 16) : wAt (schedTo bs 64) k = w4 (bAt bs (4 * k)) (bAt bs (4 * k + 1)) (bAt bs (4 * k + 2)) (bAt bs (4 * k + 3)) := by
  rw [← sched_keep48 bs (Nat.lt_succ_self k) (by omega), schedTo_new, if_pos h]
theorem sched_hi48 (bs : List UInt8) (k : Nat) (h : 16 ≤ k) (h' : k < 64) {a b c d : Wd} (ha : wAt (schedTo bs 64) (k - 16) = a) (hb : wAt (schedTo bs 64) (k - 7) = b) (hc : wAt (schedTo bs 64) (k - 15) = c) (hd : wAt (schedTo bs 64) (k - 2) = d) : wAt (schedTo bs 64) k = a + b + sg0 c + sg1 d := by
  rw [← sched_keep48 bs (Nat.lt_succ_self k) (by omega), schedTo_new, if_neg (by omega), sched_keep48 bs (i := k - 16) (by omega) (by omega), sched_keep48 bs (i := k - 7) (by omega) (by omega), sched_keep48 bs (i := k - 15) (by omega) (by omega), sched_keep48 bs (i := k - 2) (by omega) (by omega), ha, hb, hc, hd]
theorem rounds_next48 (bs : List UInt8) (v : Wds) (k : Nat) {s : Wds} {x : Wd} (hs : roundsT kAt bs v k = s) (hx : wAt (schedTo bs 64) k = x) : roundsT kAt bs v (k + 1) = stirT s (kAt k + x) := by rw [roundsT, hs, hx]
theorem mix_eq48 (bs : List UInt8) (v : Wds) {s : Wds} (hs : roundsT kAt bs v 64 = s) : mixT kAt v bs = addW v s := by unfold mixT; rw [hs]
theorem one_block48 (v : Wds) (b : List UInt8) (h : b.length = 64) : blocksT kAt (b.length / 64) v b = mixT kAt v b := by
  rw [h, show 64 / 64 = 0 + 1 from rfl, blocksT, blocksT, List.take_of_length_le (by omega)]
theorem two_block48 (v : Wds) (a b : List UInt8) (ha : a.length = 64) (hb : b.length = 64) {s : Wds} (hs : mixT kAt v a = s) : blocksT kAt ((a ++ b).length / 64) v (a ++ b) = mixT kAt s b := by
  rw [List.length_append, ha, hb, show (64 + 64) / 64 = 0 + 1 + 1 from rfl, blocksT, blocksT, blocksT, List.take_append_of_le_length (by omega), List.take_of_length_le (by omega), hs, List.drop_append_of_le_length (by omega), List.drop_of_length_le (by omega), List.nil_append, List.take_of_length_le (by omega)]
def kb1 : List UInt8 := [97, 98, 99, 128, 0, 0, 0, 0, 0, 0, 0, 0, 0, 0, 0, 0, 0, 0, 0, 0, 0, 0, 0, 0, 0, 0, 0, 0, 0, 0, 0, 0, 0, 0, 0, 0, 0, 0, 0, 0, 0, 0, 0, 0, 0, 0, 0, 0, 0, 0, 0, 0, 0, 0, 0, 0, 0, 0, 0, 0, 0, 0, 0, 24]
def kb1v : Wds := ⟨1779033703#32, 3144134277#32, 1013904242#32, 2773480762#32, 1359893119#32, 2600822924#32, 528734635#32, 1541459225#32⟩
theorem kb1_w0 : wAt (schedTo kb1 64) 0 = 1633837952#32 := (sched_lo48 kb1 0 (by omega)).trans (by kernel_rfl)
theorem kb1_w1 : wAt (schedTo kb1 64) 1 = 0#32 := (sched_lo48 kb1 1 (by omega)).trans (by kernel_rfl)
theorem kb1_w2 : wAt (schedTo kb1 64) 2 = 0#32 := (sched_lo48 kb1 2 (by omega)).trans (by kernel_rfl)
theorem kb1_w3 : wAt (schedTo kb1 64) 3 = 0#32 := (sched_lo48 kb1 3 (by omega)).trans (by kernel_rfl)
theorem kb1_w4 : wAt (schedTo kb1 64) 4 = 0#32 := (sched_lo48 kb1 4 (by omega)).trans (by kernel_rfl)
theorem kb1_w5 : wAt (schedTo kb1 64) 5 = 0#32 := (sched_lo48 kb1 5 (by omega)).trans (by kernel_rfl)
theorem kb1_w6 : wAt (schedTo kb1 64) 6 = 0#32 := (sched_lo48 kb1 6 (by omega)).trans (by kernel_rfl)
theorem kb1_w7 : wAt (schedTo kb1 64) 7 = 0#32 := (sched_lo48 kb1 7 (by omega)).trans (by kernel_rfl)
theorem kb1_w8 : wAt (schedTo kb1 64) 8 = 0#32 := (sched_lo48 kb1 8 (by omega)).trans (by kernel_rfl)
theorem kb1_w9 : wAt (schedTo kb1 64) 9 = 0#32 := (sched_lo48 kb1 9 (by omega)).trans (by kernel_rfl)
theorem kb1_w10 : wAt (schedTo kb1 64) 10 = 0#32 := (sched_lo48 kb1 10 (by omega)).trans (by kernel_rfl)
theorem kb1_w11 : wAt (schedTo kb1 64) 11 = 0#32 := (sched_lo48 kb1 11 (by omega)).trans (by kernel_rfl)
theorem kb1_w12 : wAt (schedTo kb1 64) 12 = 0#32 := (sched_lo48 kb1 12 (by omega)).trans (by kernel_rfl)
theorem kb1_w13 : wAt (schedTo kb1 64) 13 = 0#32 := (sched_lo48 kb1 13 (by omega)).trans (by kernel_rfl)
theorem kb1_w14 : wAt (schedTo kb1 64) 14 = 0#32 := (sched_lo48 kb1 14 (by omega)).trans (by kernel_rfl)
theorem kb1_w15 : wAt (schedTo kb1 64) 15 = 24#32 := (sched_lo48 kb1 15 (by omega)).trans (by kernel_rfl)
theorem kb1_w16 : wAt (schedTo kb1 64) 16 = 1633837952#32 := (sched_hi48 kb1 16 (by omega) (by omega) kb1_w0 kb1_w9 kb1_w1 kb1_w14).trans (by kernel_rfl)
theorem kb1_w17 : wAt (schedTo kb1 64) 17 = 983040#32 := (sched_hi48 kb1 17 (by omega) (by omega) kb1_w1 kb1_w10 kb1_w2 kb1_w15).trans (by kernel_rfl)
theorem kb1_w18 : wAt (schedTo kb1 64) 18 = 2108187653#32 := (sched_hi48 kb1 18 (by omega) (by omega) kb1_w2 kb1_w11 kb1_w3 kb1_w16).trans (by kernel_rfl)
theorem kb1_w19 : wAt (schedTo kb1 64) 19 = 1610613702#32 := (sched_hi48 kb1 19 (by omega) (by omega) kb1_w3 kb1_w12 kb1_w4 kb1_w17).trans (by kernel_rfl)
theorem kb1_w20 : wAt (schedTo kb1 64) 20 = 1050508152#32 := (sched_hi48 kb1 20 (by omega) (by omega) kb1_w4 kb1_w13 kb1_w5 kb1_w18).trans (by kernel_rfl)
theorem kb1_w21 : wAt (schedTo kb1 64) 21 = 25426944#32 := (sched_hi48 kb1 21 (by omega) (by omega) kb1_w5 kb1_w14 kb1_w6 kb1_w19).trans (by kernel_rfl)
theorem kb1_w22 : wAt (schedTo kb1 64) 22 = 316456923#32 := (sched_hi48 kb1 22 (by omega) (by omega) kb1_w6 kb1_w15 kb1_w7 kb1_w20).trans (by kernel_rfl)
theorem kb1_w23 : wAt (schedTo kb1 64) 23 = 3806512014#32 := (sched_hi48 kb1 23 (by omega) (by omega) kb1_w7 kb1_w16 kb1_w8 kb1_w21).trans (by kernel_rfl)
theorem kb1_w24 : wAt (schedTo kb1 64) 24 = 3357629466#32 := (sched_hi48 kb1 24 (by omega) (by omega) kb1_w8 kb1_w17 kb1_w9 kb1_w22).trans (by kernel_rfl)
theorem kb1_w25 : wAt (schedTo kb1 64) 25 = 3073800610#32 := (sched_hi48 kb1 25 (by omega) (by omega) kb1_w9 kb1_w18 kb1_w10 kb1_w23).trans (by kernel_rfl)
theorem kb1_w26 : wAt (schedTo kb1 64) 26 = 3854317833#32 := (sched_hi48 kb1 26 (by omega) (by omega) kb1_w10 kb1_w19 kb1_w11 kb1_w24).trans (by kernel_rfl)
theorem kb1_w27 : wAt (schedTo kb1 64) 27 = 845560923#32 := (sched_hi48 kb1 27 (by omega) (by omega) kb1_w11 kb1_w20 kb1_w12 kb1_w25).trans (by kernel_rfl)
theorem kb1_w28 : wAt (schedTo kb1 64) 28 = 2636160359#32 := (sched_hi48 kb1 28 (by omega) (by omega) kb1_w12 kb1_w21 kb1_w13 kb1_w26).trans (by kernel_rfl)
theorem kb1_w29 : wAt (schedTo kb1 64) 29 = 3968280267#32 := (sched_hi48 kb1 29 (by omega) (by omega) kb1_w13 kb1_w22 kb1_w14 kb1_w27).trans (by kernel_rfl)
theorem kb1_w30 : wAt (schedTo kb1 64) 30 = 1881225380#32 := (sched_hi48 kb1 30 (by omega) (by omega) kb1_w14 kb1_w23 kb1_w15 kb1_w28).trans (by kernel_rfl)
theorem kb1_w31 : wAt (schedTo kb1 64) 31 = 3552024379#32 := (sched_hi48 kb1 31 (by omega) (by omega) kb1_w15 kb1_w24 kb1_w16 kb1_w29).trans (by kernel_rfl)
theorem kb1_w32 : wAt (schedTo kb1 64) 32 = 2482346367#32 := (sched_hi48 kb1 32 (by omega) (by omega) kb1_w16 kb1_w25 kb1_w17 kb1_w30).trans (by kernel_rfl)
theorem kb1_w33 : wAt (schedTo kb1 64) 33 = 996719219#32 := (sched_hi48 kb1 33 (by omega) (by omega) kb1_w17 kb1_w26 kb1_w18 kb1_w31).trans (by kernel_rfl)
theorem kb1_w34 : wAt (schedTo kb1 64) 34 = 2952069057#32 := (sched_hi48 kb1 34 (by omega) (by omega) kb1_w18 kb1_w27 kb1_w19 kb1_w32).trans (by kernel_rfl)
theorem kb1_w35 : wAt (schedTo kb1 64) 35 = 4043988066#32 := (sched_hi48 kb1 35 (by omega) (by omega) kb1_w19 kb1_w28 kb1_w20 kb1_w33).trans (by kernel_rfl)
theorem kb1_w36 : wAt (schedTo kb1 64) 36 = 176896406#32 := (sched_hi48 kb1 36 (by omega) (by omega) kb1_w20 kb1_w29 kb1_w21 kb1_w34).trans (by kernel_rfl)
theorem kb1_w37 : wAt (schedTo kb1 64) 37 = 1924104970#32 := (sched_hi48 kb1 37 (by omega) (by omega) kb1_w21 kb1_w30 kb1_w22 kb1_w35).trans (by kernel_rfl)
theorem kb1_w38 : wAt (schedTo kb1 64) 38 = 2483675966#32 := (sched_hi48 kb1 38 (by omega) (by omega) kb1_w22 kb1_w31 kb1_w23 kb1_w36).trans (by kernel_rfl)
theorem kb1_w39 : wAt (schedTo kb1 64) 39 = 610538786#32 := (sched_hi48 kb1 39 (by omega) (by omega) kb1_w23 kb1_w32 kb1_w24 kb1_w37).trans (by kernel_rfl)
theorem kb1_w40 : wAt (schedTo kb1 64) 40 = 2672279444#32 := (sched_hi48 kb1 40 (by omega) (by omega) kb1_w24 kb1_w33 kb1_w25 kb1_w38).trans (by kernel_rfl)
theorem kb1_w41 : wAt (schedTo kb1 64) 41 = 4037431130#32 := (sched_hi48 kb1 41 (by omega) (by omega) kb1_w25 kb1_w34 kb1_w26 kb1_w39).trans (by kernel_rfl)
theorem kb1_w42 : wAt (schedTo kb1 64) 42 = 1042573945#32 := (sched_hi48 kb1 42 (by omega) (by omega) kb1_w26 kb1_w35 kb1_w27 kb1_w40).trans (by kernel_rfl)
theorem kb1_w43 : wAt (schedTo kb1 64) 43 = 657669027#32 := (sched_hi48 kb1 43 (by omega) (by omega) kb1_w27 kb1_w36 kb1_w28 kb1_w41).trans (by kernel_rfl)
theorem kb1_w44 : wAt (schedTo kb1 64) 44 = 206005234#32 := (sched_hi48 kb1 44 (by omega) (by omega) kb1_w28 kb1_w37 kb1_w29 kb1_w42).trans (by kernel_rfl)
theorem kb1_w45 : wAt (schedTo kb1 64) 45 = 2215296807#32 := (sched_hi48 kb1 45 (by omega) (by omega) kb1_w29 kb1_w38 kb1_w30 kb1_w43).trans (by kernel_rfl)
theorem kb1_w46 : wAt (schedTo kb1 64) 46 = 2049510749#32 := (sched_hi48 kb1 46 (by omega) (by omega) kb1_w30 kb1_w39 kb1_w31 kb1_w44).trans (by kernel_rfl)
theorem kb1_w47 : wAt (schedTo kb1 64) 47 = 106709978#32 := (sched_hi48 kb1 47 (by omega) (by omega) kb1_w31 kb1_w40 kb1_w32 kb1_w45).trans (by kernel_rfl)
theorem kb1_w48 : wAt (schedTo kb1 64) 48 = 4215179723#32 := (sched_hi48 kb1 48 (by omega) (by omega) kb1_w32 kb1_w41 kb1_w33 kb1_w46).trans (by kernel_rfl)
theorem kb1_w49 : wAt (schedTo kb1 64) 49 = 3430291419#32 := (sched_hi48 kb1 49 (by omega) (by omega) kb1_w33 kb1_w42 kb1_w34 kb1_w47).trans (by kernel_rfl)
theorem kb1_w50 : wAt (schedTo kb1 64) 50 = 3118885940#32 := (sched_hi48 kb1 50 (by omega) (by omega) kb1_w34 kb1_w43 kb1_w35 kb1_w48).trans (by kernel_rfl)
theorem kb1_w51 : wAt (schedTo kb1 64) 51 = 2845390439#32 := (sched_hi48 kb1 51 (by omega) (by omega) kb1_w35 kb1_w44 kb1_w36 kb1_w49).trans (by kernel_rfl)
theorem kb1_w52 : wAt (schedTo kb1 64) 52 = 2226839261#32 := (sched_hi48 kb1 52 (by omega) (by omega) kb1_w36 kb1_w45 kb1_w37 kb1_w50).trans (by kernel_rfl)
theorem kb1_w53 : wAt (schedTo kb1 64) 53 = 3256115900#32 := (sched_hi48 kb1 53 (by omega) (by omega) kb1_w37 kb1_w46 kb1_w38 kb1_w51).trans (by kernel_rfl)
theorem kb1_w54 : wAt (schedTo kb1 64) 54 = 344409900#32 := (sched_hi48 kb1 54 (by omega) (by omega) kb1_w38 kb1_w47 kb1_w39 kb1_w52).trans (by kernel_rfl)
theorem kb1_w55 : wAt (schedTo kb1 64) 55 = 2987358873#32 := (sched_hi48 kb1 55 (by omega) (by omega) kb1_w39 kb1_w48 kb1_w40 kb1_w53).trans (by kernel_rfl)
theorem kb1_w56 : wAt (schedTo kb1 64) 56 = 4015503821#32 := (sched_hi48 kb1 56 (by omega) (by omega) kb1_w40 kb1_w49 kb1_w41 kb1_w54).trans (by kernel_rfl)
theorem kb1_w57 : wAt (schedTo kb1 64) 57 = 3957764664#32 := (sched_hi48 kb1 57 (by omega) (by omega) kb1_w41 kb1_w50 kb1_w42 kb1_w55).trans (by kernel_rfl)
theorem kb1_w58 : wAt (schedTo kb1 64) 58 = 2682456414#32 := (sched_hi48 kb1 58 (by omega) (by omega) kb1_w42 kb1_w51 kb1_w43 kb1_w56).trans (by kernel_rfl)
theorem kb1_w59 : wAt (schedTo kb1 64) 59 = 2025622859#32 := (sched_hi48 kb1 59 (by omega) (by omega) kb1_w43 kb1_w52 kb1_w44 kb1_w57).trans (by kernel_rfl)
theorem kb1_w60 : wAt (schedTo kb1 64) 60 = 2755645205#32 := (sched_hi48 kb1 60 (by omega) (by omega) kb1_w44 kb1_w53 kb1_w45 kb1_w58).trans (by kernel_rfl)
theorem kb1_w61 : wAt (schedTo kb1 64) 61 = 1720397816#32 := (sched_hi48 kb1 61 (by omega) (by omega) kb1_w45 kb1_w54 kb1_w46 kb1_w59).trans (by kernel_rfl)
theorem kb1_w62 : wAt (schedTo kb1 64) 62 = 4004225740#32 := (sched_hi48 kb1 62 (by omega) (by omega) kb1_w46 kb1_w55 kb1_w47 kb1_w60).trans (by kernel_rfl)
theorem kb1_w63 : wAt (schedTo kb1 64) 63 = 313650667#32 := (sched_hi48 kb1 63 (by omega) (by omega) kb1_w47 kb1_w56 kb1_w48 kb1_w61).trans (by kernel_rfl)
theorem kb1_r0 : roundsT kAt kb1 kb1v 0 = ⟨1779033703#32, 3144134277#32, 1013904242#32, 2773480762#32, 1359893119#32, 2600822924#32, 528734635#32, 1541459225#32⟩ := rfl
theorem kb1_r1 : roundsT kAt kb1 kb1v 1 = ⟨1567288269#32, 1779033703#32, 3144134277#32, 1013904242#32, 4197074466#32, 1359893119#32, 2600822924#32, 528734635#32⟩ := (rounds_next48 kb1 kb1v 0 kb1_r0 kb1_w0).trans (by kernel_rfl)
theorem kb1_r2 : roundsT kAt kb1 kb1v 2 = ⟨1516951981#32, 1567288269#32, 1779033703#32, 3144134277#32, 2026797449#32, 4197074466#32, 1359893119#32, 2600822924#32⟩ := (rounds_next48 kb1 kb1v 1 kb1_r1 kb1_w1).trans (by kernel_rfl)
theorem kb1_r3 : roundsT kAt kb1 kb1v 3 = ⟨3368241063#32, 1516951981#32, 1567288269#32, 1779033703#32, 4180228587#32, 2026797449#32, 4197074466#32, 1359893119#32⟩ := (rounds_next48 kb1 kb1v 2 kb1_r2 kb1_w2).trans (by kernel_rfl)
theorem kb1_r4 : roundsT kAt kb1 kb1v 4 = ⟨3578852966#32, 3368241063#32, 1516951981#32, 1567288269#32, 618661968#32, 4180228587#32, 2026797449#32, 4197074466#32⟩ := (rounds_next48 kb1 kb1v 3 kb1_r3 kb1_w3).trans (by kernel_rfl)
theorem kb1_r5 : roundsT kAt kb1 kb1v 5 = ⟨71342698#32, 3578852966#32, 3368241063#32, 1516951981#32, 1135452741#32, 618661968#32, 4180228587#32, 2026797449#32⟩ := (rounds_next48 kb1 kb1v 4 kb1_r4 kb1_w4).trans (by kernel_rfl)
theorem kb1_r6 : roundsT kAt kb1 kb1v 6 = ⟨725748213#32, 71342698#32, 3578852966#32, 3368241063#32, 1900175533#32, 1135452741#32, 618661968#32, 4180228587#32⟩ := (rounds_next48 kb1 kb1v 5 kb1_r5 kb1_w5).trans (by kernel_rfl)
theorem kb1_r7 : roundsT kAt kb1 kb1v 7 = ⟨3842179968#32, 725748213#32, 71342698#32, 3578852966#32, 2603066369#32, 1900175533#32, 1135452741#32, 618661968#32⟩ := (rounds_next48 kb1 kb1v 6 kb1_r6 kb1_w6).trans (by kernel_rfl)
theorem kb1_r8 : roundsT kAt kb1 kb1v 8 = ⟨2241887071#32, 3842179968#32, 725748213#32, 71342698#32, 207977081#32, 2603066369#32, 1900175533#32, 1135452741#32⟩ := (rounds_next48 kb1 kb1v 7 kb1_r7 kb1_w7).trans (by kernel_rfl)
theorem kb1_r9 : roundsT kAt kb1 kb1v 9 = ⟨2382687417#32, 2241887071#32, 3842179968#32, 725748213#32, 852110732#32, 207977081#32, 2603066369#32, 1900175533#32⟩ := (rounds_next48 kb1 kb1v 8 kb1_r8 kb1_w8).trans (by kernel_rfl)
theorem kb1_r10 : roundsT kAt kb1 kb1v 10 = ⟨2357671019#32, 2382687417#32, 2241887071#32, 3842179968#32, 482944406#32, 852110732#32, 207977081#32, 2603066369#32⟩ := (rounds_next48 kb1 kb1v 9 kb1_r9 kb1_w9).trans (by kernel_rfl)
theorem kb1_r11 : roundsT kAt kb1 kb1v 11 = ⟨1201185780#32, 2357671019#32, 2382687417#32, 2241887071#32, 1131095016#32, 482944406#32, 852110732#32, 207977081#32⟩ := (rounds_next48 kb1 kb1v 10 kb1_r10 kb1_w10).trans (by kernel_rfl)
theorem kb1_r12 : roundsT kAt kb1 kb1v 12 = ⟨4146054569#32, 1201185780#32, 2357671019#32, 2382687417#32, 2171590377#32, 1131095016#32, 482944406#32, 852110732#32⟩ := (rounds_next48 kb1 kb1v 11 kb1_r11 kb1_w11).trans (by kernel_rfl)
theorem kb1_r13 : roundsT kAt kb1 kb1v 13 = ⟨2274437520#32, 4146054569#32, 1201185780#32, 2357671019#32, 509051416#32, 2171590377#32, 1131095016#32, 482944406#32⟩ := (rounds_next48 kb1 kb1v 12 kb1_r12 kb1_w12).trans (by kernel_rfl)
theorem kb1_r14 : roundsT kAt kb1 kb1v 14 = ⟨3643992854#32, 2274437520#32, 4146054569#32, 1201185780#32, 1952073950#32, 509051416#32, 2171590377#32, 1131095016#32⟩ := (rounds_next48 kb1 kb1v 13 kb1_r13 kb1_w13).trans (by kernel_rfl)
theorem kb1_r15 : roundsT kAt kb1 kb1v 15 = ⟨3227803614#32, 3643992854#32, 2274437520#32, 4146054569#32, 194179596#32, 1952073950#32, 509051416#32, 2171590377#32⟩ := (rounds_next48 kb1 kb1v 14 kb1_r14 kb1_w14).trans (by kernel_rfl)
theorem kb1_r16 : roundsT kAt kb1 kb1v 16 = ⟨2969183118#32, 3227803614#32, 3643992854#32, 2274437520#32, 123276749#32, 194179596#32, 1952073950#32, 509051416#32⟩ := (rounds_next48 kb1 kb1v 15 kb1_r15 kb1_w15).trans (by kernel_rfl)
theorem kb1_r17 : roundsT kAt kb1 kb1v 17 = ⟨567974555#32, 2969183118#32, 3227803614#32, 3643992854#32, 2150900380#32, 123276749#32, 194179596#32, 1952073950#32⟩ := (rounds_next48 kb1 kb1v 16 kb1_r16 kb1_w16).trans (by kernel_rfl)
theorem kb1_r18 : roundsT kAt kb1 kb1v 18 = ⟨3271285201#32, 567974555#32, 2969183118#32, 3227803614#32, 2221859924#32, 2150900380#32, 123276749#32, 194179596#32⟩ := (rounds_next48 kb1 kb1v 17 kb1_r17 kb1_w17).trans (by kernel_rfl)
theorem kb1_r19 : roundsT kAt kb1 kb1v 19 = ⟨4269243327#32, 3271285201#32, 567974555#32, 2969183118#32, 3431569761#32, 2221859924#32, 2150900380#32, 123276749#32⟩ := (rounds_next48 kb1 kb1v 18 kb1_r18 kb1_w18).trans (by kernel_rfl)
theorem kb1_r20 : roundsT kAt kb1 kb1v 20 = ⟨3790736435#32, 4269243327#32, 3271285201#32, 567974555#32, 2959311225#32, 3431569761#32, 2221859924#32, 2150900380#32⟩ := (rounds_next48 kb1 kb1v 19 kb1_r19 kb1_w19).trans (by kernel_rfl)
theorem kb1_r21 : roundsT kAt kb1 kb1v 21 = ⟨2647034723#32, 3790736435#32, 4269243327#32, 3271285201#32, 2329577776#32, 2959311225#32, 3431569761#32, 2221859924#32⟩ := (rounds_next48 kb1 kb1v 20 kb1_r20 kb1_w20).trans (by kernel_rfl)
theorem kb1_r22 : roundsT kAt kb1 kb1v 22 = ⟨3261099373#32, 2647034723#32, 3790736435#32, 4269243327#32, 3777329520#32, 2329577776#32, 2959311225#32, 3431569761#32⟩ := (rounds_next48 kb1 kb1v 21 kb1_r21 kb1_w21).trans (by kernel_rfl)
theorem kb1_r23 : roundsT kAt kb1 kb1v 23 = ⟨2812502591#32, 3261099373#32, 2647034723#32, 3790736435#32, 1240797514#32, 3777329520#32, 2329577776#32, 2959311225#32⟩ := (rounds_next48 kb1 kb1v 22 kb1_r22 kb1_w22).trans (by kernel_rfl)
theorem kb1_r24 : roundsT kAt kb1 kb1v 24 = ⟨3319086477#32, 2812502591#32, 3261099373#32, 2647034723#32, 2856829767#32, 1240797514#32, 3777329520#32, 2329577776#32⟩ := (rounds_next48 kb1 kb1v 23 kb1_r23 kb1_w23).trans (by kernel_rfl)
theorem kb1_r25 : roundsT kAt kb1 kb1v 25 = ⟨472655928#32, 3319086477#32, 2812502591#32, 3261099373#32, 673443729#32, 2856829767#32, 1240797514#32, 3777329520#32⟩ := (rounds_next48 kb1 kb1v 24 kb1_r24 kb1_w24).trans (by kernel_rfl)
theorem kb1_r26 : roundsT kAt kb1 kb1v 26 = ⟨3454534525#32, 472655928#32, 3319086477#32, 2812502591#32, 339230094#32, 673443729#32, 2856829767#32, 1240797514#32⟩ := (rounds_next48 kb1 kb1v 25 kb1_r25 kb1_w25).trans (by kernel_rfl)
theorem kb1_r27 : roundsT kAt kb1 kb1v 27 = ⟨3056518332#32, 3454534525#32, 472655928#32, 3319086477#32, 3343672598#32, 339230094#32, 673443729#32, 2856829767#32⟩ := (rounds_next48 kb1 kb1v 26 kb1_r26 kb1_w26).trans (by kernel_rfl)
theorem kb1_r28 : roundsT kAt kb1 kb1v 28 = ⟨2010346792#32, 3056518332#32, 3454534525#32, 472655928#32, 3992961016#32, 3343672598#32, 339230094#32, 673443729#32⟩ := (rounds_next48 kb1 kb1v 27 kb1_r27 kb1_w27).trans (by kernel_rfl)
theorem kb1_r29 : roundsT kAt kb1 kb1v 29 = ⟨909411017#32, 2010346792#32, 3056518332#32, 3454534525#32, 1628611511#32, 3992961016#32, 3343672598#32, 339230094#32⟩ := (rounds_next48 kb1 kb1v 28 kb1_r28 kb1_w28).trans (by kernel_rfl)
theorem kb1_r30 : roundsT kAt kb1 kb1v 30 = ⟨2684750640#32, 909411017#32, 2010346792#32, 3056518332#32, 2917635127#32, 1628611511#32, 3992961016#32, 3343672598#32⟩ := (rounds_next48 kb1 kb1v 29 kb1_r29 kb1_w29).trans (by kernel_rfl)
theorem kb1_r31 : roundsT kAt kb1 kb1v 31 = ⟨3935906338#32, 2684750640#32, 909411017#32, 2010346792#32, 17410874#32, 2917635127#32, 1628611511#32, 3992961016#32⟩ := (rounds_next48 kb1 kb1v 30 kb1_r30 kb1_w30).trans (by kernel_rfl)
theorem kb1_r32 : roundsT kAt kb1 kb1v 32 = ⟨1941126133#32, 3935906338#32, 2684750640#32, 909411017#32, 3126399250#32, 17410874#32, 2917635127#32, 1628611511#32⟩ := (rounds_next48 kb1 kb1v 31 kb1_r31 kb1_w31).trans (by kernel_rfl)
theorem kb1_r33 : roundsT kAt kb1 kb1v 33 = ⟨2564891911#32, 1941126133#32, 3935906338#32, 2684750640#32, 2631529974#32, 3126399250#32, 17410874#32, 2917635127#32⟩ := (rounds_next48 kb1 kb1v 32 kb1_r32 kb1_w32).trans (by kernel_rfl)
theorem kb1_r34 : roundsT kAt kb1 kb1v 34 = ⟨4267724277#32, 2564891911#32, 1941126133#32, 3935906338#32, 1495571923#32, 2631529974#32, 3126399250#32, 17410874#32⟩ := (rounds_next48 kb1 kb1v 33 kb1_r33 kb1_w33).trans (by kernel_rfl)
theorem kb1_r35 : roundsT kAt kb1 kb1v 35 = ⟨2846323596#32, 4267724277#32, 2564891911#32, 1941126133#32, 140458035#32, 1495571923#32, 2631529974#32, 3126399250#32⟩ := (rounds_next48 kb1 kb1v 34 kb1_r34 kb1_w34).trans (by kernel_rfl)
theorem kb1_r36 : roundsT kAt kb1 kb1v 36 = ⟨1705037796#32, 2846323596#32, 4267724277#32, 2564891911#32, 4105175766#32, 140458035#32, 1495571923#32, 2631529974#32⟩ := (rounds_next48 kb1 kb1v 35 kb1_r35 kb1_w35).trans (by kernel_rfl)
theorem kb1_r37 : roundsT kAt kb1 kb1v 37 = ⟨1101421745#32, 1705037796#32, 2846323596#32, 4267724277#32, 124953195#32, 4105175766#32, 140458035#32, 1495571923#32⟩ := (rounds_next48 kb1 kb1v 36 kb1_r36 kb1_w36).trans (by kernel_rfl)
theorem kb1_r38 : roundsT kAt kb1 kb1v 38 = ⟨887035396#32, 1101421745#32, 1705037796#32, 2846323596#32, 2768741693#32, 124953195#32, 4105175766#32, 140458035#32⟩ := (rounds_next48 kb1 kb1v 37 kb1_r37 kb1_w37).trans (by kernel_rfl)
theorem kb1_r39 : roundsT kAt kb1 kb1v 39 = ⟨1841658506#32, 887035396#32, 1101421745#32, 1705037796#32, 4034403272#32, 2768741693#32, 124953195#32, 4105175766#32⟩ := (rounds_next48 kb1 kb1v 38 kb1_r38 kb1_w38).trans (by kernel_rfl)
theorem kb1_r40 : roundsT kAt kb1 kb1v 40 = ⟨2045405306#32, 1841658506#32, 887035396#32, 1101421745#32, 519815328#32, 4034403272#32, 2768741693#32, 124953195#32⟩ := (rounds_next48 kb1 kb1v 39 kb1_r39 kb1_w39).trans (by kernel_rfl)
theorem kb1_r41 : roundsT kAt kb1 kb1v 41 = ⟨3597076326#32, 2045405306#32, 1841658506#32, 887035396#32, 641019235#32, 519815328#32, 4034403272#32, 2768741693#32⟩ := (rounds_next48 kb1 kb1v 40 kb1_r40 kb1_w40).trans (by kernel_rfl)
theorem kb1_r42 : roundsT kAt kb1 kb1v 42 = ⟨3745932591#32, 3597076326#32, 2045405306#32, 1841658506#32, 2206934801#32, 641019235#32, 519815328#32, 4034403272#32⟩ := (rounds_next48 kb1 kb1v 41 kb1_r41 kb1_w41).trans (by kernel_rfl)
theorem kb1_r43 : roundsT kAt kb1 kb1v 43 = ⟨397020670#32, 3745932591#32, 3597076326#32, 2045405306#32, 3737995029#32, 2206934801#32, 641019235#32, 519815328#32⟩ := (rounds_next48 kb1 kb1v 42 kb1_r42 kb1_w42).trans (by kernel_rfl)
theorem kb1_r44 : roundsT kAt kb1 kb1v 44 = ⟨2638983059#32, 397020670#32, 3745932591#32, 3597076326#32, 4255271982#32, 3737995029#32, 2206934801#32, 641019235#32⟩ := (rounds_next48 kb1 kb1v 43 kb1_r43 kb1_w43).trans (by kernel_rfl)
theorem kb1_r45 : roundsT kAt kb1 kb1v 45 = ⟨643991573#32, 2638983059#32, 397020670#32, 3745932591#32, 2819559920#32, 4255271982#32, 3737995029#32, 2206934801#32⟩ := (rounds_next48 kb1 kb1v 44 kb1_r44 kb1_w44).trans (by kernel_rfl)
theorem kb1_r46 : roundsT kAt kb1 kb1v 46 = ⟨1923828625#32, 643991573#32, 2638983059#32, 397020670#32, 3077922209#32, 2819559920#32, 4255271982#32, 3737995029#32⟩ := (rounds_next48 kb1 kb1v 45 kb1_r45 kb1_w45).trans (by kernel_rfl)
theorem kb1_r47 : roundsT kAt kb1 kb1v 47 = ⟨2706117808#32, 1923828625#32, 643991573#32, 2638983059#32, 3581645993#32, 3077922209#32, 2819559920#32, 4255271982#32⟩ := (rounds_next48 kb1 kb1v 46 kb1_r46 kb1_w46).trans (by kernel_rfl)
theorem kb1_r48 : roundsT kAt kb1 kb1v 48 = ⟨1098003085#32, 2706117808#32, 1923828625#32, 643991573#32, 4274981830#32, 3581645993#32, 3077922209#32, 2819559920#32⟩ := (rounds_next48 kb1 kb1v 47 kb1_r47 kb1_w47).trans (by kernel_rfl)
theorem kb1_r49 : roundsT kAt kb1 kb1v 49 = ⟨91585771#32, 1098003085#32, 2706117808#32, 1923828625#32, 3178315832#32, 4274981830#32, 3581645993#32, 3077922209#32⟩ := (rounds_next48 kb1 kb1v 48 kb1_r48 kb1_w48).trans (by kernel_rfl)
theorem kb1_r50 : roundsT kAt kb1 kb1v 50 = ⟨4045142696#32, 91585771#32, 1098003085#32, 2706117808#32, 1851537676#32, 3178315832#32, 4274981830#32, 3581645993#32⟩ := (rounds_next48 kb1 kb1v 49 kb1_r49 kb1_w49).trans (by kernel_rfl)
theorem kb1_r51 : roundsT kAt kb1 kb1v 51 = ⟨2047150241#32, 4045142696#32, 91585771#32, 1098003085#32, 1391578359#32, 1851537676#32, 3178315832#32, 4274981830#32⟩ := (rounds_next48 kb1 kb1v 50 kb1_r50 kb1_w50).trans (by kernel_rfl)
theorem kb1_r52 : roundsT kAt kb1 kb1v 52 = ⟨2288941602#32, 2047150241#32, 4045142696#32, 91585771#32, 1227037726#32, 1391578359#32, 1851537676#32, 3178315832#32⟩ := (rounds_next48 kb1 kb1v 51 kb1_r51 kb1_w51).trans (by kernel_rfl)
theorem kb1_r53 : roundsT kAt kb1 kb1v 53 = ⟨270520975#32, 2288941602#32, 2047150241#32, 4045142696#32, 1386118400#32, 1227037726#32, 1391578359#32, 1851537676#32⟩ := (rounds_next48 kb1 kb1v 52 kb1_r52 kb1_w52).trans (by kernel_rfl)
theorem kb1_r54 : roundsT kAt kb1 kb1v 54 = ⟨4117770203#32, 270520975#32, 2288941602#32, 2047150241#32, 2672265155#32, 1386118400#32, 1227037726#32, 1391578359#32⟩ := (rounds_next48 kb1 kb1v 53 kb1_r53 kb1_w53).trans (by kernel_rfl)
theorem kb1_r55 : roundsT kAt kb1 kb1v 55 = ⟨1053056219#32, 4117770203#32, 270520975#32, 2288941602#32, 3842906959#32, 2672265155#32, 1386118400#32, 1227037726#32⟩ := (rounds_next48 kb1 kb1v 54 kb1_r54 kb1_w54).trans (by kernel_rfl)
theorem kb1_r56 : roundsT kAt kb1 kb1v 56 = ⟨952932627#32, 1053056219#32, 4117770203#32, 270520975#32, 1422599787#32, 3842906959#32, 2672265155#32, 1386118400#32⟩ := (rounds_next48 kb1 kb1v 55 kb1_r55 kb1_w55).trans (by kernel_rfl)
theorem kb1_r57 : roundsT kAt kb1 kb1v 57 = ⟨4241590395#32, 952932627#32, 1053056219#32, 4117770203#32, 2606665836#32, 1422599787#32, 3842906959#32, 2672265155#32⟩ := (rounds_next48 kb1 kb1v 56 kb1_r56 kb1_w56).trans (by kernel_rfl)
theorem kb1_r58 : roundsT kAt kb1 kb1v 58 = ⟨3227702383#32, 4241590395#32, 952932627#32, 1053056219#32, 2118385806#32, 2606665836#32, 1422599787#32, 3842906959#32⟩ := (rounds_next48 kb1 kb1v 57 kb1_r57 kb1_w57).trans (by kernel_rfl)
theorem kb1_r59 : roundsT kAt kb1 kb1v 59 = ⟨4290184306#32, 3227702383#32, 4241590395#32, 952932627#32, 1837350854#32, 2118385806#32, 2606665836#32, 1422599787#32⟩ := (rounds_next48 kb1 kb1v 58 kb1_r58 kb1_w58).trans (by kernel_rfl)
theorem kb1_r60 : roundsT kAt kb1 kb1v 60 = ⟨3064893439#32, 4290184306#32, 3227702383#32, 4241590395#32, 2988158269#32, 1837350854#32, 2118385806#32, 2606665836#32⟩ := (rounds_next48 kb1 kb1v 59 kb1_r59 kb1_w59).trans (by kernel_rfl)
theorem kb1_r61 : roundsT kAt kb1 kb1v 61 = ⟨3093179625#32, 3064893439#32, 4290184306#32, 3227702383#32, 2518632596#32, 2988158269#32, 1837350854#32, 2118385806#32⟩ := (rounds_next48 kb1 kb1v 60 kb1_r60 kb1_w60).trans (by kernel_rfl)
theorem kb1_r62 : roundsT kAt kb1 kb1v 62 = ⟨80891244#32, 3093179625#32, 3064893439#32, 4290184306#32, 2492278198#32, 2518632596#32, 2988158269#32, 1837350854#32⟩ := (rounds_next48 kb1 kb1v 61 kb1_r61 kb1_w61).trans (by kernel_rfl)
theorem kb1_r63 : roundsT kAt kb1 kb1v 63 = ⟨3550093669#32, 80891244#32, 3093179625#32, 3064893439#32, 4212265488#32, 2492278198#32, 2518632596#32, 2988158269#32⟩ := (rounds_next48 kb1 kb1v 62 kb1_r62 kb1_w62).trans (by kernel_rfl)
theorem kb1_r64 : roundsT kAt kb1 kb1v 64 = ⟨1349398616#32, 3550093669#32, 80891244#32, 3093179625#32, 1593118500#32, 4212265488#32, 2492278198#32, 2518632596#32⟩ := (rounds_next48 kb1 kb1v 63 kb1_r63 kb1_w63).trans (by kernel_rfl)
theorem kb1_mix : mixT kAt kb1v kb1 = ⟨3128432319#32, 2399260650#32, 1094795486#32, 1571693091#32, 2953011619#32, 2518121116#32, 3021012833#32, 4060091821#32⟩ := (mix_eq48 kb1 kb1v kb1_r64).trans (by kernel_rfl)
def abc48_t : List UInt8 := [97, 98, 99]
theorem abc48_pad : padT abc48_t = kb1 := by kernel_rfl
theorem abc48_sum : sumW kAt iv0 abc48_t = ⟨3128432319#32, 2399260650#32, 1094795486#32, 1571693091#32, 2953011619#32, 2518121116#32, 3021012833#32, 4060091821#32⟩ := by
  unfold sumW
  rw [abc48_pad]
  exact (one_block48 iv0 kb1 rfl).trans kb1_mix
theorem abc48_dig : digestT (bytesOf (sumW kAt iv0 abc48_t)) = [186, 120, 22, 191, 143, 1, 207, 234, 65, 65, 64, 222, 93, 174, 34, 35, 176, 3, 97, 163, 150, 23, 122, 156, 180, 16, 255, 97, 242, 0, 21, 173] := by
  rw [abc48_sum]
  kernel_rfl
theorem abc_hash : hashT ⟨#[97, 98, 99]⟩ = ⟨#[98, 97, 55, 56, 49, 54, 98, 102, 56, 102, 48, 49, 99, 102, 101, 97, 52, 49, 52, 49, 52, 48, 100, 101, 53, 100, 97, 101, 50, 50, 50, 51, 98, 48, 48, 51, 54, 49, 97, 51, 57, 54, 49, 55, 55, 97, 57, 99, 98, 52, 49, 48, 102, 102, 54, 49, 102, 50, 48, 48, 49, 53, 97, 100]⟩ := by
  unfold hashT
  rw [show (⟨#[97, 98, 99]⟩ : ByteArray).data.toList = abc48_t from rfl, abc48_dig]
  kernel_rfl
def kb2 : List UInt8 := [61, 61, 61, 61, 61, 61, 61, 61, 61, 61, 61, 61, 61, 61, 61, 61, 61, 61, 61, 61, 54, 54, 54, 54, 54, 54, 54, 54, 54, 54, 54, 54, 54, 54, 54, 54, 54, 54, 54, 54, 54, 54, 54, 54, 54, 54, 54, 54, 54, 54, 54, 54, 54, 54, 54, 54, 54, 54, 54, 54, 54, 54, 54, 54]
def kb2v : Wds := ⟨1779033703#32, 3144134277#32, 1013904242#32, 2773480762#32, 1359893119#32, 2600822924#32, 528734635#32, 1541459225#32⟩
theorem kb2_w0 : wAt (schedTo kb2 64) 0 = 1027423549#32 := (sched_lo48 kb2 0 (by omega)).trans (by kernel_rfl)
theorem kb2_w1 : wAt (schedTo kb2 64) 1 = 1027423549#32 := (sched_lo48 kb2 1 (by omega)).trans (by kernel_rfl)
theorem kb2_w2 : wAt (schedTo kb2 64) 2 = 1027423549#32 := (sched_lo48 kb2 2 (by omega)).trans (by kernel_rfl)
theorem kb2_w3 : wAt (schedTo kb2 64) 3 = 1027423549#32 := (sched_lo48 kb2 3 (by omega)).trans (by kernel_rfl)
theorem kb2_w4 : wAt (schedTo kb2 64) 4 = 1027423549#32 := (sched_lo48 kb2 4 (by omega)).trans (by kernel_rfl)
theorem kb2_w5 : wAt (schedTo kb2 64) 5 = 909522486#32 := (sched_lo48 kb2 5 (by omega)).trans (by kernel_rfl)
theorem kb2_w6 : wAt (schedTo kb2 64) 6 = 909522486#32 := (sched_lo48 kb2 6 (by omega)).trans (by kernel_rfl)
theorem kb2_w7 : wAt (schedTo kb2 64) 7 = 909522486#32 := (sched_lo48 kb2 7 (by omega)).trans (by kernel_rfl)
theorem kb2_w8 : wAt (schedTo kb2 64) 8 = 909522486#32 := (sched_lo48 kb2 8 (by omega)).trans (by kernel_rfl)
theorem kb2_w9 : wAt (schedTo kb2 64) 9 = 909522486#32 := (sched_lo48 kb2 9 (by omega)).trans (by kernel_rfl)
theorem kb2_w10 : wAt (schedTo kb2 64) 10 = 909522486#32 := (sched_lo48 kb2 10 (by omega)).trans (by kernel_rfl)
theorem kb2_w11 : wAt (schedTo kb2 64) 11 = 909522486#32 := (sched_lo48 kb2 11 (by omega)).trans (by kernel_rfl)
theorem kb2_w12 : wAt (schedTo kb2 64) 12 = 909522486#32 := (sched_lo48 kb2 12 (by omega)).trans (by kernel_rfl)
theorem kb2_w13 : wAt (schedTo kb2 64) 13 = 909522486#32 := (sched_lo48 kb2 13 (by omega)).trans (by kernel_rfl)
theorem kb2_w14 : wAt (schedTo kb2 64) 14 = 909522486#32 := (sched_lo48 kb2 14 (by omega)).trans (by kernel_rfl)
theorem kb2_w15 : wAt (schedTo kb2 64) 15 = 909522486#32 := (sched_lo48 kb2 15 (by omega)).trans (by kernel_rfl)
theorem kb2_w16 : wAt (schedTo kb2 64) 16 = 2211862101#32 := (sched_hi48 kb2 16 (by omega) (by omega) kb2_w0 kb2_w9 kb2_w1 kb2_w14).trans (by kernel_rfl)
theorem kb2_w17 : wAt (schedTo kb2 64) 17 = 2211862101#32 := (sched_hi48 kb2 17 (by omega) (by omega) kb2_w1 kb2_w10 kb2_w2 kb2_w15).trans (by kernel_rfl)
theorem kb2_w18 : wAt (schedTo kb2 64) 18 = 2277935625#32 := (sched_hi48 kb2 18 (by omega) (by omega) kb2_w2 kb2_w11 kb2_w3 kb2_w16).trans (by kernel_rfl)
theorem kb2_w19 : wAt (schedTo kb2 64) 19 = 2277935625#32 := (sched_hi48 kb2 19 (by omega) (by omega) kb2_w3 kb2_w12 kb2_w4 kb2_w17).trans (by kernel_rfl)
theorem kb2_w20 : wAt (schedTo kb2 64) 20 = 4009663827#32 := (sched_hi48 kb2 20 (by omega) (by omega) kb2_w4 kb2_w13 kb2_w5 kb2_w18).trans (by kernel_rfl)
theorem kb2_w21 : wAt (schedTo kb2 64) 21 = 3891762764#32 := (sched_hi48 kb2 21 (by omega) (by omega) kb2_w5 kb2_w14 kb2_w6 kb2_w19).trans (by kernel_rfl)
theorem kb2_w22 : wAt (schedTo kb2 64) 22 = 4039887002#32 := (sched_hi48 kb2 22 (by omega) (by omega) kb2_w6 kb2_w15 kb2_w7 kb2_w20).trans (by kernel_rfl)
theorem kb2_w23 : wAt (schedTo kb2 64) 23 = 3674850962#32 := (sched_hi48 kb2 23 (by omega) (by omega) kb2_w7 kb2_w16 kb2_w8 kb2_w21).trans (by kernel_rfl)
theorem kb2_w24 : wAt (schedTo kb2 64) 24 = 1050003520#32 := (sched_hi48 kb2 24 (by omega) (by omega) kb2_w8 kb2_w17 kb2_w9 kb2_w22).trans (by kernel_rfl)
theorem kb2_w25 : wAt (schedTo kb2 64) 25 = 2161236986#32 := (sched_hi48 kb2 25 (by omega) (by omega) kb2_w9 kb2_w18 kb2_w10 kb2_w23).trans (by kernel_rfl)
theorem kb2_w26 : wAt (schedTo kb2 64) 26 = 38511952#32 := (sched_hi48 kb2 26 (by omega) (by omega) kb2_w10 kb2_w19 kb2_w11 kb2_w24).trans (by kernel_rfl)
theorem kb2_w27 : wAt (schedTo kb2 64) 27 = 3808304820#32 := (sched_hi48 kb2 27 (by omega) (by omega) kb2_w11 kb2_w20 kb2_w12 kb2_w25).trans (by kernel_rfl)
theorem kb2_w28 : wAt (schedTo kb2 64) 28 = 2874640174#32 := (sched_hi48 kb2 28 (by omega) (by omega) kb2_w12 kb2_w21 kb2_w13 kb2_w26).trans (by kernel_rfl)
theorem kb2_w29 : wAt (schedTo kb2 64) 29 = 3671947422#32 := (sched_hi48 kb2 29 (by omega) (by omega) kb2_w13 kb2_w22 kb2_w14 kb2_w27).trans (by kernel_rfl)
theorem kb2_w30 : wAt (schedTo kb2 64) 30 = 733968655#32 := (sched_hi48 kb2 30 (by omega) (by omega) kb2_w14 kb2_w23 kb2_w15 kb2_w28).trans (by kernel_rfl)
theorem kb2_w31 : wAt (schedTo kb2 64) 31 = 3072198260#32 := (sched_hi48 kb2 31 (by omega) (by omega) kb2_w15 kb2_w24 kb2_w16 kb2_w29).trans (by kernel_rfl)
theorem kb2_w32 : wAt (schedTo kb2 64) 32 = 2268911704#32 := (sched_hi48 kb2 32 (by omega) (by omega) kb2_w16 kb2_w25 kb2_w17 kb2_w30).trans (by kernel_rfl)
theorem kb2_w33 : wAt (schedTo kb2 64) 33 = 3950003254#32 := (sched_hi48 kb2 33 (by omega) (by omega) kb2_w17 kb2_w26 kb2_w18 kb2_w31).trans (by kernel_rfl)
theorem kb2_w34 : wAt (schedTo kb2 64) 34 = 54559408#32 := (sched_hi48 kb2 34 (by omega) (by omega) kb2_w18 kb2_w27 kb2_w19 kb2_w32).trans (by kernel_rfl)
theorem kb2_w35 : wAt (schedTo kb2 64) 35 = 2065455917#32 := (sched_hi48 kb2 35 (by omega) (by omega) kb2_w19 kb2_w28 kb2_w20 kb2_w33).trans (by kernel_rfl)
theorem kb2_w36 : wAt (schedTo kb2 64) 36 = 2072841201#32 := (sched_hi48 kb2 36 (by omega) (by omega) kb2_w20 kb2_w29 kb2_w21 kb2_w34).trans (by kernel_rfl)
theorem kb2_w37 : wAt (schedTo kb2 64) 37 = 2491627526#32 := (sched_hi48 kb2 37 (by omega) (by omega) kb2_w21 kb2_w30 kb2_w22 kb2_w35).trans (by kernel_rfl)
theorem kb2_w38 : wAt (schedTo kb2 64) 38 = 469098144#32 := (sched_hi48 kb2 38 (by omega) (by omega) kb2_w22 kb2_w31 kb2_w23 kb2_w36).trans (by kernel_rfl)
theorem kb2_w39 : wAt (schedTo kb2 64) 39 = 1395455046#32 := (sched_hi48 kb2 39 (by omega) (by omega) kb2_w23 kb2_w32 kb2_w24 kb2_w37).trans (by kernel_rfl)
theorem kb2_w40 : wAt (schedTo kb2 64) 40 = 309213541#32 := (sched_hi48 kb2 40 (by omega) (by omega) kb2_w24 kb2_w33 kb2_w25 kb2_w38).trans (by kernel_rfl)
theorem kb2_w41 : wAt (schedTo kb2 64) 41 = 2984995562#32 := (sched_hi48 kb2 41 (by omega) (by omega) kb2_w25 kb2_w34 kb2_w26 kb2_w39).trans (by kernel_rfl)
theorem kb2_w42 : wAt (schedTo kb2 64) 42 = 1262074053#32 := (sched_hi48 kb2 42 (by omega) (by omega) kb2_w26 kb2_w35 kb2_w27 kb2_w40).trans (by kernel_rfl)
theorem kb2_w43 : wAt (schedTo kb2 64) 43 = 3766981621#32 := (sched_hi48 kb2 43 (by omega) (by omega) kb2_w27 kb2_w36 kb2_w28 kb2_w41).trans (by kernel_rfl)
theorem kb2_w44 : wAt (schedTo kb2 64) 44 = 2752324894#32 := (sched_hi48 kb2 44 (by omega) (by omega) kb2_w28 kb2_w37 kb2_w29 kb2_w42).trans (by kernel_rfl)
theorem kb2_w45 : wAt (schedTo kb2 64) 45 = 4159905841#32 := (sched_hi48 kb2 45 (by omega) (by omega) kb2_w29 kb2_w38 kb2_w30 kb2_w43).trans (by kernel_rfl)
theorem kb2_w46 : wAt (schedTo kb2 64) 46 = 855819304#32 := (sched_hi48 kb2 46 (by omega) (by omega) kb2_w30 kb2_w39 kb2_w31 kb2_w44).trans (by kernel_rfl)
theorem kb2_w47 : wAt (schedTo kb2 64) 47 = 1437547804#32 := (sched_hi48 kb2 47 (by omega) (by omega) kb2_w31 kb2_w40 kb2_w32 kb2_w45).trans (by kernel_rfl)
theorem kb2_w48 : wAt (schedTo kb2 64) 48 = 3581637988#32 := (sched_hi48 kb2 48 (by omega) (by omega) kb2_w32 kb2_w41 kb2_w33 kb2_w46).trans (by kernel_rfl)
theorem kb2_w49 : wAt (schedTo kb2 64) 49 = 4037368363#32 := (sched_hi48 kb2 49 (by omega) (by omega) kb2_w33 kb2_w42 kb2_w34 kb2_w47).trans (by kernel_rfl)
theorem kb2_w50 : wAt (schedTo kb2 64) 50 = 4216500872#32 := (sched_hi48 kb2 50 (by omega) (by omega) kb2_w34 kb2_w43 kb2_w35 kb2_w48).trans (by kernel_rfl)
theorem kb2_w51 : wAt (schedTo kb2 64) 51 = 3574666469#32 := (sched_hi48 kb2 51 (by omega) (by omega) kb2_w35 kb2_w44 kb2_w36 kb2_w49).trans (by kernel_rfl)
theorem kb2_w52 : wAt (schedTo kb2 64) 52 = 1415882465#32 := (sched_hi48 kb2 52 (by omega) (by omega) kb2_w36 kb2_w45 kb2_w37 kb2_w50).trans (by kernel_rfl)
theorem kb2_w53 : wAt (schedTo kb2 64) 53 = 2772592433#32 := (sched_hi48 kb2 53 (by omega) (by omega) kb2_w37 kb2_w46 kb2_w38 kb2_w51).trans (by kernel_rfl)
theorem kb2_w54 : wAt (schedTo kb2 64) 54 = 4113631486#32 := (sched_hi48 kb2 54 (by omega) (by omega) kb2_w38 kb2_w47 kb2_w39 kb2_w52).trans (by kernel_rfl)
theorem kb2_w55 : wAt (schedTo kb2 64) 55 = 3996155903#32 := (sched_hi48 kb2 55 (by omega) (by omega) kb2_w39 kb2_w48 kb2_w40 kb2_w53).trans (by kernel_rfl)
theorem kb2_w56 : wAt (schedTo kb2 64) 56 = 3260388350#32 := (sched_hi48 kb2 56 (by omega) (by omega) kb2_w40 kb2_w49 kb2_w41 kb2_w54).trans (by kernel_rfl)
theorem kb2_w57 : wAt (schedTo kb2 64) 57 = 3409558234#32 := (sched_hi48 kb2 57 (by omega) (by omega) kb2_w41 kb2_w50 kb2_w42 kb2_w55).trans (by kernel_rfl)
theorem kb2_w58 : wAt (schedTo kb2 64) 58 = 2938601254#32 := (sched_hi48 kb2 58 (by omega) (by omega) kb2_w42 kb2_w51 kb2_w43 kb2_w56).trans (by kernel_rfl)
theorem kb2_w59 : wAt (schedTo kb2 64) 59 = 2139047253#32 := (sched_hi48 kb2 59 (by omega) (by omega) kb2_w43 kb2_w52 kb2_w44 kb2_w57).trans (by kernel_rfl)
theorem kb2_w60 : wAt (schedTo kb2 64) 60 = 1321850801#32 := (sched_hi48 kb2 60 (by omega) (by omega) kb2_w44 kb2_w53 kb2_w45 kb2_w58).trans (by kernel_rfl)
theorem kb2_w61 : wAt (schedTo kb2 64) 61 = 508578429#32 := (sched_hi48 kb2 61 (by omega) (by omega) kb2_w45 kb2_w54 kb2_w46 kb2_w59).trans (by kernel_rfl)
theorem kb2_w62 : wAt (schedTo kb2 64) 62 = 4023004577#32 := (sched_hi48 kb2 62 (by omega) (by omega) kb2_w46 kb2_w55 kb2_w47 kb2_w60).trans (by kernel_rfl)
theorem kb2_w63 : wAt (schedTo kb2 64) 63 = 1389901602#32 := (sched_hi48 kb2 63 (by omega) (by omega) kb2_w47 kb2_w56 kb2_w48 kb2_w61).trans (by kernel_rfl)
theorem kb2_r0 : roundsT kAt kb2 kb2v 0 = ⟨1779033703#32, 3144134277#32, 1013904242#32, 2773480762#32, 1359893119#32, 2600822924#32, 528734635#32, 1541459225#32⟩ := rfl
theorem kb2_r1 : roundsT kAt kb2 kb2v 1 = ⟨960873866#32, 1779033703#32, 3144134277#32, 1013904242#32, 3590660063#32, 1359893119#32, 2600822924#32, 528734635#32⟩ := (rounds_next48 kb2 kb2v 0 kb2_r0 kb2_w0).trans (by kernel_rfl)
theorem kb2_r2 : roundsT kAt kb2 kb2v 2 = ⟨2642838335#32, 960873866#32, 1779033703#32, 3144134277#32, 3919117441#32, 3590660063#32, 1359893119#32, 2600822924#32⟩ := (rounds_next48 kb2 kb2v 1 kb2_r1 kb2_w1).trans (by kernel_rfl)
theorem kb2_r3 : roundsT kAt kb2 kb2v 3 = ⟨3615902316#32, 2642838335#32, 960873866#32, 1779033703#32, 1968602933#32, 3919117441#32, 3590660063#32, 1359893119#32⟩ := (rounds_next48 kb2 kb2v 2 kb2_r2 kb2_w2).trans (by kernel_rfl)
theorem kb2_r4 : roundsT kAt kb2 kb2v 4 = ⟨277656282#32, 3615902316#32, 2642838335#32, 960873866#32, 1566652444#32, 1968602933#32, 3919117441#32, 3590660063#32⟩ := (rounds_next48 kb2 kb2v 3 kb2_r3 kb2_w3).trans (by kernel_rfl)
theorem kb2_r5 : roundsT kAt kb2 kb2v 5 = ⟨3130230276#32, 277656282#32, 3615902316#32, 2642838335#32, 1041893503#32, 1566652444#32, 1968602933#32, 3919117441#32⟩ := (rounds_next48 kb2 kb2v 4 kb2_r4 kb2_w4).trans (by kernel_rfl)
theorem kb2_r6 : roundsT kAt kb2 kb2v 6 = ⟨3091202822#32, 3130230276#32, 277656282#32, 3615902316#32, 1923537922#32, 1041893503#32, 1566652444#32, 1968602933#32⟩ := (rounds_next48 kb2 kb2v 5 kb2_r5 kb2_w5).trans (by kernel_rfl)
theorem kb2_r7 : roundsT kAt kb2 kb2v 7 = ⟨3332671717#32, 3091202822#32, 3130230276#32, 277656282#32, 796948779#32, 1923537922#32, 1041893503#32, 1566652444#32⟩ := (rounds_next48 kb2 kb2v 6 kb2_r6 kb2_w6).trans (by kernel_rfl)
theorem kb2_r8 : roundsT kAt kb2 kb2v 8 = ⟨442141700#32, 3332671717#32, 3091202822#32, 3130230276#32, 3418504403#32, 796948779#32, 1923537922#32, 1041893503#32⟩ := (rounds_next48 kb2 kb2v 7 kb2_r7 kb2_w7).trans (by kernel_rfl)
theorem kb2_r9 : roundsT kAt kb2 kb2v 9 = ⟨1661723745#32, 442141700#32, 3332671717#32, 3091202822#32, 1993900197#32, 3418504403#32, 796948779#32, 1923537922#32⟩ := (rounds_next48 kb2 kb2v 8 kb2_r8 kb2_w8).trans (by kernel_rfl)
theorem kb2_r10 : roundsT kAt kb2 kb2v 10 = ⟨2327430045#32, 1661723745#32, 442141700#32, 3332671717#32, 2895566195#32, 1993900197#32, 3418504403#32, 796948779#32⟩ := (rounds_next48 kb2 kb2v 9 kb2_r9 kb2_w9).trans (by kernel_rfl)
theorem kb2_r11 : roundsT kAt kb2 kb2v 11 = ⟨3234751777#32, 2327430045#32, 1661723745#32, 442141700#32, 3825915646#32, 2895566195#32, 1993900197#32, 3418504403#32⟩ := (rounds_next48 kb2 kb2v 10 kb2_r10 kb2_w10).trans (by kernel_rfl)
theorem kb2_r12 : roundsT kAt kb2 kb2v 12 = ⟨1379178507#32, 3234751777#32, 2327430045#32, 1661723745#32, 1230644918#32, 3825915646#32, 2895566195#32, 1993900197#32⟩ := (rounds_next48 kb2 kb2v 11 kb2_r11 kb2_w11).trans (by kernel_rfl)
theorem kb2_r13 : roundsT kAt kb2 kb2v 13 = ⟨818897207#32, 1379178507#32, 3234751777#32, 2327430045#32, 174516641#32, 1230644918#32, 3825915646#32, 2895566195#32⟩ := (rounds_next48 kb2 kb2v 12 kb2_r12 kb2_w12).trans (by kernel_rfl)
theorem kb2_r14 : roundsT kAt kb2 kb2v 14 = ⟨474931387#32, 818897207#32, 1379178507#32, 3234751777#32, 1579925568#32, 174516641#32, 1230644918#32, 3825915646#32⟩ := (rounds_next48 kb2 kb2v 13 kb2_r13 kb2_w13).trans (by kernel_rfl)
theorem kb2_r15 : roundsT kAt kb2 kb2v 15 = ⟨3887848266#32, 474931387#32, 818897207#32, 1379178507#32, 2666637832#32, 1579925568#32, 174516641#32, 1230644918#32⟩ := (rounds_next48 kb2 kb2v 14 kb2_r14 kb2_w14).trans (by kernel_rfl)
theorem kb2_r16 : roundsT kAt kb2 kb2v 16 = ⟨1018556064#32, 3887848266#32, 474931387#32, 818897207#32, 3443901662#32, 2666637832#32, 1579925568#32, 174516641#32⟩ := (rounds_next48 kb2 kb2v 15 kb2_r15 kb2_w15).trans (by kernel_rfl)
theorem kb2_r17 : roundsT kAt kb2 kb2v 17 = ⟨1034486827#32, 1018556064#32, 3887848266#32, 474931387#32, 2216844227#32, 3443901662#32, 2666637832#32, 1579925568#32⟩ := (rounds_next48 kb2 kb2v 16 kb2_r16 kb2_w16).trans (by kernel_rfl)
theorem kb2_r18 : roundsT kAt kb2 kb2v 18 = ⟨1606220457#32, 1034486827#32, 1018556064#32, 3887848266#32, 4096724102#32, 2216844227#32, 3443901662#32, 2666637832#32⟩ := (rounds_next48 kb2 kb2v 17 kb2_r17 kb2_w17).trans (by kernel_rfl)
theorem kb2_r19 : roundsT kAt kb2 kb2v 19 = ⟨259156534#32, 1606220457#32, 1034486827#32, 1018556064#32, 1210118308#32, 4096724102#32, 2216844227#32, 3443901662#32⟩ := (rounds_next48 kb2 kb2v 18 kb2_r18 kb2_w18).trans (by kernel_rfl)
theorem kb2_r20 : roundsT kAt kb2 kb2v 20 = ⟨243889600#32, 259156534#32, 1606220457#32, 1034486827#32, 264421650#32, 1210118308#32, 4096724102#32, 2216844227#32⟩ := (rounds_next48 kb2 kb2v 19 kb2_r19 kb2_w19).trans (by kernel_rfl)
theorem kb2_r21 : roundsT kAt kb2 kb2v 21 = ⟨3162771461#32, 243889600#32, 259156534#32, 1606220457#32, 1644130447#32, 264421650#32, 1210118308#32, 4096724102#32⟩ := (rounds_next48 kb2 kb2v 20 kb2_r20 kb2_w20).trans (by kernel_rfl)
theorem kb2_r22 : roundsT kAt kb2 kb2v 22 = ⟨301913105#32, 3162771461#32, 243889600#32, 259156534#32, 1676568547#32, 1644130447#32, 264421650#32, 1210118308#32⟩ := (rounds_next48 kb2 kb2v 21 kb2_r21 kb2_w21).trans (by kernel_rfl)
theorem kb2_r23 : roundsT kAt kb2 kb2v 23 = ⟨3331345477#32, 301913105#32, 3162771461#32, 243889600#32, 2580472773#32, 1676568547#32, 1644130447#32, 264421650#32⟩ := (rounds_next48 kb2 kb2v 22 kb2_r22 kb2_w22).trans (by kernel_rfl)
theorem kb2_r24 : roundsT kAt kb2 kb2v 24 = ⟨884664694#32, 3331345477#32, 301913105#32, 3162771461#32, 1542773416#32, 2580472773#32, 1676568547#32, 1644130447#32⟩ := (rounds_next48 kb2 kb2v 23 kb2_r23 kb2_w23).trans (by kernel_rfl)
theorem kb2_r25 : roundsT kAt kb2 kb2v 25 = ⟨3265396589#32, 884664694#32, 3331345477#32, 301913105#32, 1026587589#32, 1542773416#32, 2580472773#32, 1676568547#32⟩ := (rounds_next48 kb2 kb2v 24 kb2_r24 kb2_w24).trans (by kernel_rfl)
theorem kb2_r26 : roundsT kAt kb2 kb2v 26 = ⟨3997971851#32, 3265396589#32, 884664694#32, 3331345477#32, 761151065#32, 1026587589#32, 1542773416#32, 2580472773#32⟩ := (rounds_next48 kb2 kb2v 25 kb2_r25 kb2_w25).trans (by kernel_rfl)
theorem kb2_r27 : roundsT kAt kb2 kb2v 27 = ⟨438434191#32, 3997971851#32, 3265396589#32, 884664694#32, 2465134507#32, 761151065#32, 1026587589#32, 1542773416#32⟩ := (rounds_next48 kb2 kb2v 26 kb2_r26 kb2_w26).trans (by kernel_rfl)
theorem kb2_r28 : roundsT kAt kb2 kb2v 28 = ⟨2938469324#32, 438434191#32, 3997971851#32, 3265396589#32, 2359809199#32, 2465134507#32, 761151065#32, 1026587589#32⟩ := (rounds_next48 kb2 kb2v 27 kb2_r27 kb2_w27).trans (by kernel_rfl)
theorem kb2_r29 : roundsT kAt kb2 kb2v 29 = ⟨3623418178#32, 2938469324#32, 438434191#32, 3997971851#32, 2352114108#32, 2359809199#32, 2465134507#32, 761151065#32⟩ := (rounds_next48 kb2 kb2v 28 kb2_r28 kb2_w28).trans (by kernel_rfl)
theorem kb2_r30 : roundsT kAt kb2 kb2v 30 = ⟨2492937520#32, 3623418178#32, 2938469324#32, 438434191#32, 1202972197#32, 2352114108#32, 2359809199#32, 2465134507#32⟩ := (rounds_next48 kb2 kb2v 29 kb2_r29 kb2_w29).trans (by kernel_rfl)
theorem kb2_r31 : roundsT kAt kb2 kb2v 31 = ⟨1109365991#32, 2492937520#32, 3623418178#32, 2938469324#32, 4095109519#32, 1202972197#32, 2352114108#32, 2359809199#32⟩ := (rounds_next48 kb2 kb2v 30 kb2_r30 kb2_w30).trans (by kernel_rfl)
theorem kb2_r32 : roundsT kAt kb2 kb2v 32 = ⟨2311692159#32, 1109365991#32, 2492937520#32, 3623418178#32, 1482751260#32, 4095109519#32, 1202972197#32, 2352114108#32⟩ := (rounds_next48 kb2 kb2v 31 kb2_r31 kb2_w31).trans (by kernel_rfl)
theorem kb2_r33 : roundsT kAt kb2 kb2v 33 = ⟨903947960#32, 2311692159#32, 1109365991#32, 2492937520#32, 1296478927#32, 1482751260#32, 4095109519#32, 1202972197#32⟩ := (rounds_next48 kb2 kb2v 32 kb2_r32 kb2_w32).trans (by kernel_rfl)
theorem kb2_r34 : roundsT kAt kb2 kb2v 34 = ⟨3741497289#32, 903947960#32, 2311692159#32, 1109365991#32, 3048034186#32, 1296478927#32, 1482751260#32, 4095109519#32⟩ := (rounds_next48 kb2 kb2v 33 kb2_r33 kb2_w33).trans (by kernel_rfl)
theorem kb2_r35 : roundsT kAt kb2 kb2v 35 = ⟨195898#32, 3741497289#32, 903947960#32, 2311692159#32, 3775883149#32, 3048034186#32, 1296478927#32, 1482751260#32⟩ := (rounds_next48 kb2 kb2v 34 kb2_r34 kb2_w34).trans (by kernel_rfl)
theorem kb2_r36 : roundsT kAt kb2 kb2v 36 = ⟨2360747705#32, 195898#32, 3741497289#32, 903947960#32, 2673391399#32, 3775883149#32, 3048034186#32, 1296478927#32⟩ := (rounds_next48 kb2 kb2v 35 kb2_r35 kb2_w35).trans (by kernel_rfl)
theorem kb2_r37 : roundsT kAt kb2 kb2v 37 = ⟨3235806604#32, 2360747705#32, 195898#32, 3741497289#32, 3695305310#32, 2673391399#32, 3775883149#32, 3048034186#32⟩ := (rounds_next48 kb2 kb2v 36 kb2_r36 kb2_w36).trans (by kernel_rfl)
theorem kb2_r38 : roundsT kAt kb2 kb2v 38 = ⟨3028484856#32, 3235806604#32, 2360747705#32, 195898#32, 1833407094#32, 3695305310#32, 2673391399#32, 3775883149#32⟩ := (rounds_next48 kb2 kb2v 37 kb2_r37 kb2_w37).trans (by kernel_rfl)
theorem kb2_r39 : roundsT kAt kb2 kb2v 39 = ⟨1297609067#32, 3028484856#32, 3235806604#32, 2360747705#32, 2446737785#32, 1833407094#32, 3695305310#32, 2673391399#32⟩ := (rounds_next48 kb2 kb2v 38 kb2_r38 kb2_w38).trans (by kernel_rfl)
theorem kb2_r40 : roundsT kAt kb2 kb2v 40 = ⟨3241608997#32, 1297609067#32, 3028484856#32, 3235806604#32, 2169208870#32, 2446737785#32, 1833407094#32, 3695305310#32⟩ := (rounds_next48 kb2 kb2v 39 kb2_r39 kb2_w39).trans (by kernel_rfl)
theorem kb2_r41 : roundsT kAt kb2 kb2v 41 = ⟨341937634#32, 3241608997#32, 1297609067#32, 3028484856#32, 2057939088#32, 2169208870#32, 2446737785#32, 1833407094#32⟩ := (rounds_next48 kb2 kb2v 40 kb2_r40 kb2_w40).trans (by kernel_rfl)
theorem kb2_r42 : roundsT kAt kb2 kb2v 42 = ⟨26586694#32, 341937634#32, 3241608997#32, 1297609067#32, 73524150#32, 2057939088#32, 2169208870#32, 2446737785#32⟩ := (rounds_next48 kb2 kb2v 41 kb2_r41 kb2_w41).trans (by kernel_rfl)
theorem kb2_r43 : roundsT kAt kb2 kb2v 43 = ⟨1690961294#32, 26586694#32, 341937634#32, 3241608997#32, 201320537#32, 73524150#32, 2057939088#32, 2169208870#32⟩ := (rounds_next48 kb2 kb2v 42 kb2_r42 kb2_w42).trans (by kernel_rfl)
theorem kb2_r44 : roundsT kAt kb2 kb2v 44 = ⟨3434422157#32, 1690961294#32, 26586694#32, 341937634#32, 3956472396#32, 201320537#32, 73524150#32, 2057939088#32⟩ := (rounds_next48 kb2 kb2v 43 kb2_r43 kb2_w43).trans (by kernel_rfl)
theorem kb2_r45 : roundsT kAt kb2 kb2v 45 = ⟨861854859#32, 3434422157#32, 1690961294#32, 26586694#32, 2817410406#32, 3956472396#32, 201320537#32, 73524150#32⟩ := (rounds_next48 kb2 kb2v 44 kb2_r44 kb2_w44).trans (by kernel_rfl)
theorem kb2_r46 : roundsT kAt kb2 kb2v 46 = ⟨4177922206#32, 861854859#32, 3434422157#32, 1690961294#32, 1103206460#32, 2817410406#32, 3956472396#32, 201320537#32⟩ := (rounds_next48 kb2 kb2v 45 kb2_r45 kb2_w45).trans (by kernel_rfl)
theorem kb2_r47 : roundsT kAt kb2 kb2v 47 = ⟨3503338335#32, 4177922206#32, 861854859#32, 3434422157#32, 1508928107#32, 1103206460#32, 2817410406#32, 3956472396#32⟩ := (rounds_next48 kb2 kb2v 46 kb2_r46 kb2_w46).trans (by kernel_rfl)
theorem kb2_r48 : roundsT kAt kb2 kb2v 48 = ⟨1867717820#32, 3503338335#32, 4177922206#32, 861854859#32, 514444953#32, 1508928107#32, 1103206460#32, 2817410406#32⟩ := (rounds_next48 kb2 kb2v 47 kb2_r47 kb2_w47).trans (by kernel_rfl)
theorem kb2_r49 : roundsT kAt kb2 kb2v 49 = ⟨2151971137#32, 1867717820#32, 3503338335#32, 4177922206#32, 135000356#32, 514444953#32, 1508928107#32, 1103206460#32⟩ := (rounds_next48 kb2 kb2v 48 kb2_r48 kb2_w48).trans (by kernel_rfl)
theorem kb2_r50 : roundsT kAt kb2 kb2v 50 = ⟨3627694407#32, 2151971137#32, 1867717820#32, 3503338335#32, 1425534486#32, 135000356#32, 514444953#32, 1508928107#32⟩ := (rounds_next48 kb2 kb2v 49 kb2_r49 kb2_w49).trans (by kernel_rfl)
theorem kb2_r51 : roundsT kAt kb2 kb2v 51 = ⟨70076768#32, 3627694407#32, 2151971137#32, 1867717820#32, 936800922#32, 1425534486#32, 135000356#32, 514444953#32⟩ := (rounds_next48 kb2 kb2v 50 kb2_r50 kb2_w50).trans (by kernel_rfl)
theorem kb2_r52 : roundsT kAt kb2 kb2v 52 = ⟨2504515051#32, 70076768#32, 3627694407#32, 2151971137#32, 2235534916#32, 936800922#32, 1425534486#32, 135000356#32⟩ := (rounds_next48 kb2 kb2v 51 kb2_r51 kb2_w51).trans (by kernel_rfl)
theorem kb2_r53 : roundsT kAt kb2 kb2v 53 = ⟨3662728904#32, 2504515051#32, 70076768#32, 3627694407#32, 2968189845#32, 2235534916#32, 936800922#32, 1425534486#32⟩ := (rounds_next48 kb2 kb2v 52 kb2_r52 kb2_w52).trans (by kernel_rfl)
theorem kb2_r54 : roundsT kAt kb2 kb2v 54 = ⟨3112801869#32, 3662728904#32, 2504515051#32, 70076768#32, 4187242319#32, 2968189845#32, 2235534916#32, 936800922#32⟩ := (rounds_next48 kb2 kb2v 53 kb2_r53 kb2_w53).trans (by kernel_rfl)
theorem kb2_r55 : roundsT kAt kb2 kb2v 55 = ⟨3975103604#32, 3112801869#32, 3662728904#32, 2504515051#32, 1568935890#32, 4187242319#32, 2968189845#32, 2235534916#32⟩ := (rounds_next48 kb2 kb2v 54 kb2_r54 kb2_w54).trans (by kernel_rfl)
theorem kb2_r56 : roundsT kAt kb2 kb2v 56 = ⟨3844010797#32, 3975103604#32, 3112801869#32, 3662728904#32, 3692012792#32, 1568935890#32, 4187242319#32, 2968189845#32⟩ := (rounds_next48 kb2 kb2v 55 kb2_r55 kb2_w55).trans (by kernel_rfl)
theorem kb2_r57 : roundsT kAt kb2 kb2v 57 = ⟨1787948918#32, 3844010797#32, 3975103604#32, 3112801869#32, 3144598569#32, 3692012792#32, 1568935890#32, 4187242319#32⟩ := (rounds_next48 kb2 kb2v 56 kb2_r56 kb2_w56).trans (by kernel_rfl)
theorem kb2_r58 : roundsT kAt kb2 kb2v 58 = ⟨1107660307#32, 1787948918#32, 3844010797#32, 3975103604#32, 1749304820#32, 3144598569#32, 3692012792#32, 1568935890#32⟩ := (rounds_next48 kb2 kb2v 57 kb2_r57 kb2_w57).trans (by kernel_rfl)
theorem kb2_r59 : roundsT kAt kb2 kb2v 59 = ⟨3003907254#32, 1107660307#32, 1787948918#32, 3844010797#32, 2277643091#32, 1749304820#32, 3144598569#32, 3692012792#32⟩ := (rounds_next48 kb2 kb2v 58 kb2_r58 kb2_w58).trans (by kernel_rfl)
theorem kb2_r60 : roundsT kAt kb2 kb2v 60 = ⟨2930816909#32, 3003907254#32, 1107660307#32, 1787948918#32, 3410493126#32, 2277643091#32, 1749304820#32, 3144598569#32⟩ := (rounds_next48 kb2 kb2v 59 kb2_r59 kb2_w59).trans (by kernel_rfl)
theorem kb2_r61 : roundsT kAt kb2 kb2v 61 = ⟨1432744218#32, 2930816909#32, 3003907254#32, 1107660307#32, 148288285#32, 3410493126#32, 2277643091#32, 1749304820#32⟩ := (rounds_next48 kb2 kb2v 60 kb2_r60 kb2_w60).trans (by kernel_rfl)
theorem kb2_r62 : roundsT kAt kb2 kb2v 62 = ⟨2021208602#32, 1432744218#32, 2930816909#32, 3003907254#32, 2030898259#32, 148288285#32, 3410493126#32, 2277643091#32⟩ := (rounds_next48 kb2 kb2v 61 kb2_r61 kb2_w61).trans (by kernel_rfl)
theorem kb2_r63 : roundsT kAt kb2 kb2v 63 = ⟨1750183284#32, 2021208602#32, 1432744218#32, 2930816909#32, 3034976354#32, 2030898259#32, 148288285#32, 3410493126#32⟩ := (rounds_next48 kb2 kb2v 62 kb2_r62 kb2_w62).trans (by kernel_rfl)
theorem kb2_r64 : roundsT kAt kb2 kb2v 64 = ⟨3249025437#32, 1750183284#32, 2021208602#32, 1432744218#32, 3236183967#32, 3034976354#32, 2030898259#32, 148288285#32⟩ := (rounds_next48 kb2 kb2v 63 kb2_r63 kb2_w63).trans (by kernel_rfl)
theorem kb2_mix : mixT kAt kb2v kb2 = ⟨733091844#32, 599350265#32, 3035112844#32, 4206224980#32, 301109790#32, 1340831982#32, 2559632894#32, 1689747510#32⟩ := (mix_eq48 kb2 kb2v kb2_r64).trans (by kernel_rfl)
def kb3 : List UInt8 := [72, 105, 32, 84, 104, 101, 114, 101, 128, 0, 0, 0, 0, 0, 0, 0, 0, 0, 0, 0, 0, 0, 0, 0, 0, 0, 0, 0, 0, 0, 0, 0, 0, 0, 0, 0, 0, 0, 0, 0, 0, 0, 0, 0, 0, 0, 0, 0, 0, 0, 0, 0, 0, 0, 0, 0, 0, 0, 0, 0, 0, 0, 2, 64]
def kb3v : Wds := ⟨733091844#32, 599350265#32, 3035112844#32, 4206224980#32, 301109790#32, 1340831982#32, 2559632894#32, 1689747510#32⟩
theorem kb3_w0 : wAt (schedTo kb3 64) 0 = 1214849108#32 := (sched_lo48 kb3 0 (by omega)).trans (by kernel_rfl)
theorem kb3_w1 : wAt (schedTo kb3 64) 1 = 1751478885#32 := (sched_lo48 kb3 1 (by omega)).trans (by kernel_rfl)
theorem kb3_w2 : wAt (schedTo kb3 64) 2 = 2147483648#32 := (sched_lo48 kb3 2 (by omega)).trans (by kernel_rfl)
theorem kb3_w3 : wAt (schedTo kb3 64) 3 = 0#32 := (sched_lo48 kb3 3 (by omega)).trans (by kernel_rfl)
theorem kb3_w4 : wAt (schedTo kb3 64) 4 = 0#32 := (sched_lo48 kb3 4 (by omega)).trans (by kernel_rfl)
theorem kb3_w5 : wAt (schedTo kb3 64) 5 = 0#32 := (sched_lo48 kb3 5 (by omega)).trans (by kernel_rfl)
theorem kb3_w6 : wAt (schedTo kb3 64) 6 = 0#32 := (sched_lo48 kb3 6 (by omega)).trans (by kernel_rfl)
theorem kb3_w7 : wAt (schedTo kb3 64) 7 = 0#32 := (sched_lo48 kb3 7 (by omega)).trans (by kernel_rfl)
theorem kb3_w8 : wAt (schedTo kb3 64) 8 = 0#32 := (sched_lo48 kb3 8 (by omega)).trans (by kernel_rfl)
theorem kb3_w9 : wAt (schedTo kb3 64) 9 = 0#32 := (sched_lo48 kb3 9 (by omega)).trans (by kernel_rfl)
theorem kb3_w10 : wAt (schedTo kb3 64) 10 = 0#32 := (sched_lo48 kb3 10 (by omega)).trans (by kernel_rfl)
theorem kb3_w11 : wAt (schedTo kb3 64) 11 = 0#32 := (sched_lo48 kb3 11 (by omega)).trans (by kernel_rfl)
theorem kb3_w12 : wAt (schedTo kb3 64) 12 = 0#32 := (sched_lo48 kb3 12 (by omega)).trans (by kernel_rfl)
theorem kb3_w13 : wAt (schedTo kb3 64) 13 = 0#32 := (sched_lo48 kb3 13 (by omega)).trans (by kernel_rfl)
theorem kb3_w14 : wAt (schedTo kb3 64) 14 = 0#32 := (sched_lo48 kb3 14 (by omega)).trans (by kernel_rfl)
theorem kb3_w15 : wAt (schedTo kb3 64) 15 = 576#32 := (sched_lo48 kb3 15 (by omega)).trans (by kernel_rfl)
theorem kb3_w16 : wAt (schedTo kb3 64) 16 = 3819855621#32 := (sched_hi48 kb3 16 (by omega) (by omega) kb3_w0 kb3_w9 kb3_w1 kb3_w14).trans (by kernel_rfl)
theorem kb3_w17 : wAt (schedTo kb3 64) 17 = 2060292709#32 := (sched_hi48 kb3 17 (by omega) (by omega) kb3_w1 kb3_w10 kb3_w2 kb3_w15).trans (by kernel_rfl)
theorem kb3_w18 : wAt (schedTo kb3 64) 18 = 1683662389#32 := (sched_hi48 kb3 18 (by omega) (by omega) kb3_w2 kb3_w11 kb3_w3 kb3_w16).trans (by kernel_rfl)
theorem kb3_w19 : wAt (schedTo kb3 64) 19 = 2069930331#32 := (sched_hi48 kb3 19 (by omega) (by omega) kb3_w3 kb3_w12 kb3_w4 kb3_w17).trans (by kernel_rfl)
theorem kb3_w20 : wAt (schedTo kb3 64) 20 = 130353167#32 := (sched_hi48 kb3 20 (by omega) (by omega) kb3_w4 kb3_w13 kb3_w5 kb3_w18).trans (by kernel_rfl)
theorem kb3_w21 : wAt (schedTo kb3 64) 21 = 1150814964#32 := (sched_hi48 kb3 21 (by omega) (by omega) kb3_w5 kb3_w14 kb3_w6 kb3_w19).trans (by kernel_rfl)
theorem kb3_w22 : wAt (schedTo kb3 64) 22 = 621253784#32 := (sched_hi48 kb3 22 (by omega) (by omega) kb3_w6 kb3_w15 kb3_w7 kb3_w20).trans (by kernel_rfl)
theorem kb3_w23 : wAt (schedTo kb3 64) 23 = 3890473954#32 := (sched_hi48 kb3 23 (by omega) (by omega) kb3_w7 kb3_w16 kb3_w8 kb3_w21).trans (by kernel_rfl)
theorem kb3_w24 : wAt (schedTo kb3 64) 24 = 3013863979#32 := (sched_hi48 kb3 24 (by omega) (by omega) kb3_w8 kb3_w17 kb3_w9 kb3_w22).trans (by kernel_rfl)
theorem kb3_w25 : wAt (schedTo kb3 64) 25 = 3977215532#32 := (sched_hi48 kb3 25 (by omega) (by omega) kb3_w9 kb3_w18 kb3_w10 kb3_w23).trans (by kernel_rfl)
theorem kb3_w26 : wAt (schedTo kb3 64) 26 = 64809146#32 := (sched_hi48 kb3 26 (by omega) (by omega) kb3_w10 kb3_w19 kb3_w11 kb3_w24).trans (by kernel_rfl)
theorem kb3_w27 : wAt (schedTo kb3 64) 27 = 1487778056#32 := (sched_hi48 kb3 27 (by omega) (by omega) kb3_w11 kb3_w20 kb3_w12 kb3_w25).trans (by kernel_rfl)
theorem kb3_w28 : wAt (schedTo kb3 64) 28 = 769835427#32 := (sched_hi48 kb3 28 (by omega) (by omega) kb3_w12 kb3_w21 kb3_w13 kb3_w26).trans (by kernel_rfl)
theorem kb3_w29 : wAt (schedTo kb3 64) 29 = 2478481607#32 := (sched_hi48 kb3 29 (by omega) (by omega) kb3_w13 kb3_w22 kb3_w14 kb3_w27).trans (by kernel_rfl)
theorem kb3_w30 : wAt (schedTo kb3 64) 30 = 2707585067#32 := (sched_hi48 kb3 30 (by omega) (by omega) kb3_w14 kb3_w23 kb3_w15 kb3_w28).trans (by kernel_rfl)
theorem kb3_w31 : wAt (schedTo kb3 64) 31 = 947368226#32 := (sched_hi48 kb3 31 (by omega) (by omega) kb3_w15 kb3_w24 kb3_w16 kb3_w29).trans (by kernel_rfl)
theorem kb3_w32 : wAt (schedTo kb3 64) 32 = 3844886799#32 := (sched_hi48 kb3 32 (by omega) (by omega) kb3_w16 kb3_w25 kb3_w17 kb3_w30).trans (by kernel_rfl)
theorem kb3_w33 : wAt (schedTo kb3 64) 33 = 2100591252#32 := (sched_hi48 kb3 33 (by omega) (by omega) kb3_w17 kb3_w26 kb3_w18 kb3_w31).trans (by kernel_rfl)
theorem kb3_w34 : wAt (schedTo kb3 64) 34 = 4050888725#32 := (sched_hi48 kb3 34 (by omega) (by omega) kb3_w18 kb3_w27 kb3_w19 kb3_w32).trans (by kernel_rfl)
theorem kb3_w35 : wAt (schedTo kb3 64) 35 = 3091220992#32 := (sched_hi48 kb3 35 (by omega) (by omega) kb3_w19 kb3_w28 kb3_w20 kb3_w33).trans (by kernel_rfl)
theorem kb3_w36 : wAt (schedTo kb3 64) 36 = 526050240#32 := (sched_hi48 kb3 36 (by omega) (by omega) kb3_w20 kb3_w29 kb3_w21 kb3_w34).trans (by kernel_rfl)
theorem kb3_w37 : wAt (schedTo kb3 64) 37 = 3828732756#32 := (sched_hi48 kb3 37 (by omega) (by omega) kb3_w21 kb3_w30 kb3_w22 kb3_w35).trans (by kernel_rfl)
theorem kb3_w38 : wAt (schedTo kb3 64) 38 = 2934580235#32 := (sched_hi48 kb3 38 (by omega) (by omega) kb3_w22 kb3_w31 kb3_w23 kb3_w36).trans (by kernel_rfl)
theorem kb3_w39 : wAt (schedTo kb3 64) 39 = 3701733202#32 := (sched_hi48 kb3 39 (by omega) (by omega) kb3_w23 kb3_w32 kb3_w24 kb3_w37).trans (by kernel_rfl)
theorem kb3_w40 : wAt (schedTo kb3 64) 40 = 595085146#32 := (sched_hi48 kb3 40 (by omega) (by omega) kb3_w24 kb3_w33 kb3_w25 kb3_w38).trans (by kernel_rfl)
theorem kb3_w41 : wAt (schedTo kb3 64) 41 = 2991187882#32 := (sched_hi48 kb3 41 (by omega) (by omega) kb3_w25 kb3_w34 kb3_w26 kb3_w39).trans (by kernel_rfl)
theorem kb3_w42 : wAt (schedTo kb3 64) 42 = 1599257060#32 := (sched_hi48 kb3 42 (by omega) (by omega) kb3_w26 kb3_w35 kb3_w27 kb3_w40).trans (by kernel_rfl)
theorem kb3_w43 : wAt (schedTo kb3 64) 43 = 983861419#32 := (sched_hi48 kb3 43 (by omega) (by omega) kb3_w27 kb3_w36 kb3_w28 kb3_w41).trans (by kernel_rfl)
theorem kb3_w44 : wAt (schedTo kb3 64) 44 = 1398000539#32 := (sched_hi48 kb3 44 (by omega) (by omega) kb3_w28 kb3_w37 kb3_w29 kb3_w42).trans (by kernel_rfl)
theorem kb3_w45 : wAt (schedTo kb3 64) 45 = 4116151203#32 := (sched_hi48 kb3 45 (by omega) (by omega) kb3_w29 kb3_w38 kb3_w30 kb3_w43).trans (by kernel_rfl)
theorem kb3_w46 : wAt (schedTo kb3 64) 46 = 3387366921#32 := (sched_hi48 kb3 46 (by omega) (by omega) kb3_w30 kb3_w39 kb3_w31 kb3_w44).trans (by kernel_rfl)
theorem kb3_w47 : wAt (schedTo kb3 64) 47 = 3316971043#32 := (sched_hi48 kb3 47 (by omega) (by omega) kb3_w31 kb3_w40 kb3_w32 kb3_w45).trans (by kernel_rfl)
theorem kb3_w48 : wAt (schedTo kb3 64) 48 = 1046992299#32 := (sched_hi48 kb3 48 (by omega) (by omega) kb3_w32 kb3_w41 kb3_w33 kb3_w46).trans (by kernel_rfl)
theorem kb3_w49 : wAt (schedTo kb3 64) 49 = 2721454551#32 := (sched_hi48 kb3 49 (by omega) (by omega) kb3_w33 kb3_w42 kb3_w34 kb3_w47).trans (by kernel_rfl)
theorem kb3_w50 : wAt (schedTo kb3 64) 50 = 1098922382#32 := (sched_hi48 kb3 50 (by omega) (by omega) kb3_w34 kb3_w43 kb3_w35 kb3_w48).trans (by kernel_rfl)
theorem kb3_w51 : wAt (schedTo kb3 64) 51 = 380873951#32 := (sched_hi48 kb3 51 (by omega) (by omega) kb3_w35 kb3_w44 kb3_w36 kb3_w49).trans (by kernel_rfl)
theorem kb3_w52 : wAt (schedTo kb3 64) 52 = 4063547682#32 := (sched_hi48 kb3 52 (by omega) (by omega) kb3_w36 kb3_w45 kb3_w37 kb3_w50).trans (by kernel_rfl)
theorem kb3_w53 : wAt (schedTo kb3 64) 53 = 3717280308#32 := (sched_hi48 kb3 53 (by omega) (by omega) kb3_w37 kb3_w46 kb3_w38 kb3_w51).trans (by kernel_rfl)
theorem kb3_w54 : wAt (schedTo kb3 64) 54 = 2871153346#32 := (sched_hi48 kb3 54 (by omega) (by omega) kb3_w38 kb3_w47 kb3_w39 kb3_w52).trans (by kernel_rfl)
theorem kb3_w55 : wAt (schedTo kb3 64) 55 = 2088161006#32 := (sched_hi48 kb3 55 (by omega) (by omega) kb3_w39 kb3_w48 kb3_w40 kb3_w53).trans (by kernel_rfl)
theorem kb3_w56 : wAt (schedTo kb3 64) 56 = 1669934394#32 := (sched_hi48 kb3 56 (by omega) (by omega) kb3_w40 kb3_w49 kb3_w41 kb3_w54).trans (by kernel_rfl)
theorem kb3_w57 : wAt (schedTo kb3 64) 57 = 531493593#32 := (sched_hi48 kb3 57 (by omega) (by omega) kb3_w41 kb3_w50 kb3_w42 kb3_w55).trans (by kernel_rfl)
theorem kb3_w58 : wAt (schedTo kb3 64) 58 = 2620661102#32 := (sched_hi48 kb3 58 (by omega) (by omega) kb3_w42 kb3_w51 kb3_w43 kb3_w56).trans (by kernel_rfl)
theorem kb3_w59 : wAt (schedTo kb3 64) 59 = 1110682460#32 := (sched_hi48 kb3 59 (by omega) (by omega) kb3_w43 kb3_w52 kb3_w44 kb3_w57).trans (by kernel_rfl)
theorem kb3_w60 : wAt (schedTo kb3 64) 60 = 1170950976#32 := (sched_hi48 kb3 60 (by omega) (by omega) kb3_w44 kb3_w53 kb3_w45 kb3_w58).trans (by kernel_rfl)
theorem kb3_w61 : wAt (schedTo kb3 64) 61 = 243028894#32 := (sched_hi48 kb3 61 (by omega) (by omega) kb3_w45 kb3_w54 kb3_w46 kb3_w59).trans (by kernel_rfl)
theorem kb3_w62 : wAt (schedTo kb3 64) 62 = 1978420170#32 := (sched_hi48 kb3 62 (by omega) (by omega) kb3_w46 kb3_w55 kb3_w47 kb3_w60).trans (by kernel_rfl)
theorem kb3_w63 : wAt (schedTo kb3 64) 63 = 1910011849#32 := (sched_hi48 kb3 63 (by omega) (by omega) kb3_w47 kb3_w56 kb3_w48 kb3_w61).trans (by kernel_rfl)
theorem kb3_r0 : roundsT kAt kb3 kb3v 0 = ⟨733091844#32, 599350265#32, 3035112844#32, 4206224980#32, 301109790#32, 1340831982#32, 2559632894#32, 1689747510#32⟩ := rfl
theorem kb3_r1 : roundsT kAt kb3 kb3v 1 = ⟨1656759789#32, 733091844#32, 599350265#32, 3035112844#32, 923805558#32, 301109790#32, 1340831982#32, 2559632894#32⟩ := (rounds_next48 kb3 kb3v 0 kb3_r0 kb3_w0).trans (by kernel_rfl)
theorem kb3_r2 : roundsT kAt kb3 kb3v 2 = ⟨623826418#32, 1656759789#32, 733091844#32, 599350265#32, 1058682528#32, 923805558#32, 301109790#32, 1340831982#32⟩ := (rounds_next48 kb3 kb3v 1 kb3_r1 kb3_w1).trans (by kernel_rfl)
theorem kb3_r3 : roundsT kAt kb3 kb3v 3 = ⟨1487757568#32, 623826418#32, 1656759789#32, 733091844#32, 3140964983#32, 1058682528#32, 923805558#32, 301109790#32⟩ := (rounds_next48 kb3 kb3v 2 kb3_r2 kb3_w2).trans (by kernel_rfl)
theorem kb3_r4 : roundsT kAt kb3 kb3v 4 = ⟨1388783498#32, 1487757568#32, 623826418#32, 1656759789#32, 1914649957#32, 3140964983#32, 1058682528#32, 923805558#32⟩ := (rounds_next48 kb3 kb3v 3 kb3_r3 kb3_w3).trans (by kernel_rfl)
theorem kb3_r5 : roundsT kAt kb3 kb3v 5 = ⟨3953354355#32, 1388783498#32, 1487757568#32, 623826418#32, 1228320846#32, 1914649957#32, 3140964983#32, 1058682528#32⟩ := (rounds_next48 kb3 kb3v 4 kb3_r4 kb3_w4).trans (by kernel_rfl)
theorem kb3_r6 : roundsT kAt kb3 kb3v 6 = ⟨3597551716#32, 3953354355#32, 1388783498#32, 1487757568#32, 1543990315#32, 1228320846#32, 1914649957#32, 3140964983#32⟩ := (rounds_next48 kb3 kb3v 5 kb3_r5 kb3_w5).trans (by kernel_rfl)
theorem kb3_r7 : roundsT kAt kb3 kb3v 7 = ⟨2244388848#32, 3597551716#32, 3953354355#32, 1388783498#32, 1005580380#32, 1543990315#32, 1228320846#32, 1914649957#32⟩ := (rounds_next48 kb3 kb3v 6 kb3_r6 kb3_w6).trans (by kernel_rfl)
theorem kb3_r8 : roundsT kAt kb3 kb3v 8 = ⟨3459552436#32, 2244388848#32, 3597551716#32, 3953354355#32, 1420496880#32, 1005580380#32, 1543990315#32, 1228320846#32⟩ := (rounds_next48 kb3 kb3v 7 kb3_r7 kb3_w7).trans (by kernel_rfl)
theorem kb3_r9 : roundsT kAt kb3 kb3v 9 = ⟨2947385690#32, 3459552436#32, 2244388848#32, 3597551716#32, 2423317288#32, 1420496880#32, 1005580380#32, 1543990315#32⟩ := (rounds_next48 kb3 kb3v 8 kb3_r8 kb3_w8).trans (by kernel_rfl)
theorem kb3_r10 : roundsT kAt kb3 kb3v 10 = ⟨2417766380#32, 2947385690#32, 3459552436#32, 2244388848#32, 2143976668#32, 2423317288#32, 1420496880#32, 1005580380#32⟩ := (rounds_next48 kb3 kb3v 9 kb3_r9 kb3_w9).trans (by kernel_rfl)
theorem kb3_r11 : roundsT kAt kb3 kb3v 11 = ⟨971661083#32, 2417766380#32, 2947385690#32, 3459552436#32, 93863861#32, 2143976668#32, 2423317288#32, 1420496880#32⟩ := (rounds_next48 kb3 kb3v 10 kb3_r10 kb3_w10).trans (by kernel_rfl)
theorem kb3_r12 : roundsT kAt kb3 kb3v 12 = ⟨2278872983#32, 971661083#32, 2417766380#32, 2947385690#32, 4236126334#32, 93863861#32, 2143976668#32, 2423317288#32⟩ := (rounds_next48 kb3 kb3v 11 kb3_r11 kb3_w11).trans (by kernel_rfl)
theorem kb3_r13 : roundsT kAt kb3 kb3v 13 = ⟨1979038309#32, 2278872983#32, 971661083#32, 2417766380#32, 2242875076#32, 4236126334#32, 93863861#32, 2143976668#32⟩ := (rounds_next48 kb3 kb3v 12 kb3_r12 kb3_w12).trans (by kernel_rfl)
theorem kb3_r14 : roundsT kAt kb3 kb3v 14 = ⟨819791313#32, 1979038309#32, 2278872983#32, 971661083#32, 843383235#32, 2242875076#32, 4236126334#32, 93863861#32⟩ := (rounds_next48 kb3 kb3v 13 kb3_r13 kb3_w13).trans (by kernel_rfl)
theorem kb3_r15 : roundsT kAt kb3 kb3v 15 = ⟨3496101834#32, 819791313#32, 1979038309#32, 2278872983#32, 3184364465#32, 843383235#32, 2242875076#32, 4236126334#32⟩ := (rounds_next48 kb3 kb3v 14 kb3_r14 kb3_w14).trans (by kernel_rfl)
theorem kb3_r16 : roundsT kAt kb3 kb3v 16 = ⟨3100424858#32, 3496101834#32, 819791313#32, 1979038309#32, 3428536527#32, 3184364465#32, 843383235#32, 2242875076#32⟩ := (rounds_next48 kb3 kb3v 15 kb3_r15 kb3_w15).trans (by kernel_rfl)
theorem kb3_r17 : roundsT kAt kb3 kb3v 17 = ⟨276784340#32, 3100424858#32, 3496101834#32, 819791313#32, 2375849279#32, 3428536527#32, 3184364465#32, 843383235#32⟩ := (rounds_next48 kb3 kb3v 16 kb3_r16 kb3_w16).trans (by kernel_rfl)
theorem kb3_r18 : roundsT kAt kb3 kb3v 18 = ⟨1615971750#32, 276784340#32, 3100424858#32, 3496101834#32, 563370510#32, 2375849279#32, 3428536527#32, 3184364465#32⟩ := (rounds_next48 kb3 kb3v 17 kb3_r17 kb3_w17).trans (by kernel_rfl)
theorem kb3_r19 : roundsT kAt kb3 kb3v 19 = ⟨3586659434#32, 1615971750#32, 276784340#32, 3100424858#32, 2207943992#32, 563370510#32, 2375849279#32, 3428536527#32⟩ := (rounds_next48 kb3 kb3v 18 kb3_r18 kb3_w18).trans (by kernel_rfl)
theorem kb3_r20 : roundsT kAt kb3 kb3v 20 = ⟨2290316828#32, 3586659434#32, 1615971750#32, 276784340#32, 3129076675#32, 2207943992#32, 563370510#32, 2375849279#32⟩ := (rounds_next48 kb3 kb3v 19 kb3_r19 kb3_w19).trans (by kernel_rfl)
theorem kb3_r21 : roundsT kAt kb3 kb3v 21 = ⟨3710277892#32, 2290316828#32, 3586659434#32, 1615971750#32, 2378661356#32, 3129076675#32, 2207943992#32, 563370510#32⟩ := (rounds_next48 kb3 kb3v 20 kb3_r20 kb3_w20).trans (by kernel_rfl)
theorem kb3_r22 : roundsT kAt kb3 kb3v 22 = ⟨1793124077#32, 3710277892#32, 2290316828#32, 3586659434#32, 2275732608#32, 2378661356#32, 3129076675#32, 2207943992#32⟩ := (rounds_next48 kb3 kb3v 21 kb3_r21 kb3_w21).trans (by kernel_rfl)
theorem kb3_r23 : roundsT kAt kb3 kb3v 23 = ⟨3124474878#32, 1793124077#32, 3710277892#32, 2290316828#32, 3642259269#32, 2275732608#32, 2378661356#32, 3129076675#32⟩ := (rounds_next48 kb3 kb3v 22 kb3_r22 kb3_w22).trans (by kernel_rfl)
theorem kb3_r24 : roundsT kAt kb3 kb3v 24 = ⟨3974326556#32, 3124474878#32, 1793124077#32, 3710277892#32, 2609849218#32, 3642259269#32, 2275732608#32, 2378661356#32⟩ := (rounds_next48 kb3 kb3v 23 kb3_r23 kb3_w23).trans (by kernel_rfl)
theorem kb3_r25 : roundsT kAt kb3 kb3v 25 = ⟨501147515#32, 3974326556#32, 3124474878#32, 1793124077#32, 296062356#32, 2609849218#32, 3642259269#32, 2275732608#32⟩ := (rounds_next48 kb3 kb3v 24 kb3_r24 kb3_w24).trans (by kernel_rfl)
theorem kb3_r26 : roundsT kAt kb3 kb3v 26 = ⟨1790225477#32, 501147515#32, 3974326556#32, 3124474878#32, 2439443542#32, 296062356#32, 2609849218#32, 3642259269#32⟩ := (rounds_next48 kb3 kb3v 25 kb3_r25 kb3_w25).trans (by kernel_rfl)
theorem kb3_r27 : roundsT kAt kb3 kb3v 27 = ⟨1673659421#32, 1790225477#32, 501147515#32, 3974326556#32, 3335479200#32, 2439443542#32, 296062356#32, 2609849218#32⟩ := (rounds_next48 kb3 kb3v 26 kb3_r26 kb3_w26).trans (by kernel_rfl)
theorem kb3_r28 : roundsT kAt kb3 kb3v 28 = ⟨831253584#32, 1673659421#32, 1790225477#32, 501147515#32, 1116522103#32, 3335479200#32, 2439443542#32, 296062356#32⟩ := (rounds_next48 kb3 kb3v 27 kb3_r27 kb3_w27).trans (by kernel_rfl)
theorem kb3_r29 : roundsT kAt kb3 kb3v 29 = ⟨3568111180#32, 831253584#32, 1673659421#32, 1790225477#32, 1303843301#32, 1116522103#32, 3335479200#32, 2439443542#32⟩ := (rounds_next48 kb3 kb3v 28 kb3_r28 kb3_w28).trans (by kernel_rfl)
theorem kb3_r30 : roundsT kAt kb3 kb3v 30 = ⟨2494361297#32, 3568111180#32, 831253584#32, 1673659421#32, 2590095633#32, 1303843301#32, 1116522103#32, 3335479200#32⟩ := (rounds_next48 kb3 kb3v 29 kb3_r29 kb3_w29).trans (by kernel_rfl)
theorem kb3_r31 : roundsT kAt kb3 kb3v 31 = ⟨1090165618#32, 2494361297#32, 3568111180#32, 831253584#32, 1878120638#32, 2590095633#32, 1303843301#32, 1116522103#32⟩ := (rounds_next48 kb3 kb3v 30 kb3_r30 kb3_w30).trans (by kernel_rfl)
theorem kb3_r32 : roundsT kAt kb3 kb3v 32 = ⟨648124186#32, 1090165618#32, 2494361297#32, 3568111180#32, 3787427087#32, 1878120638#32, 2590095633#32, 1303843301#32⟩ := (rounds_next48 kb3 kb3v 31 kb3_r31 kb3_w31).trans (by kernel_rfl)
theorem kb3_r33 : roundsT kAt kb3 kb3v 33 = ⟨3558230894#32, 648124186#32, 1090165618#32, 2494361297#32, 3975512600#32, 3787427087#32, 1878120638#32, 2590095633#32⟩ := (rounds_next48 kb3 kb3v 32 kb3_r32 kb3_w32).trans (by kernel_rfl)
theorem kb3_r34 : roundsT kAt kb3 kb3v 34 = ⟨2145883916#32, 3558230894#32, 648124186#32, 1090165618#32, 411263274#32, 3975512600#32, 3787427087#32, 1878120638#32⟩ := (rounds_next48 kb3 kb3v 33 kb3_r33 kb3_w33).trans (by kernel_rfl)
theorem kb3_r35 : roundsT kAt kb3 kb3v 35 = ⟨357483982#32, 2145883916#32, 3558230894#32, 648124186#32, 2782633778#32, 411263274#32, 3975512600#32, 3787427087#32⟩ := (rounds_next48 kb3 kb3v 34 kb3_r34 kb3_w34).trans (by kernel_rfl)
theorem kb3_r36 : roundsT kAt kb3 kb3v 36 = ⟨3697679431#32, 357483982#32, 2145883916#32, 3558230894#32, 495765699#32, 2782633778#32, 411263274#32, 3975512600#32⟩ := (rounds_next48 kb3 kb3v 35 kb3_r35 kb3_w35).trans (by kernel_rfl)
theorem kb3_r37 : roundsT kAt kb3 kb3v 37 = ⟨873821736#32, 3697679431#32, 357483982#32, 2145883916#32, 493793528#32, 495765699#32, 2782633778#32, 411263274#32⟩ := (rounds_next48 kb3 kb3v 36 kb3_r36 kb3_w36).trans (by kernel_rfl)
theorem kb3_r38 : roundsT kAt kb3 kb3v 38 = ⟨1993469013#32, 873821736#32, 3697679431#32, 357483982#32, 4174827810#32, 493793528#32, 495765699#32, 2782633778#32⟩ := (rounds_next48 kb3 kb3v 37 kb3_r37 kb3_w37).trans (by kernel_rfl)
theorem kb3_r39 : roundsT kAt kb3 kb3v 39 = ⟨2779777716#32, 1993469013#32, 873821736#32, 3697679431#32, 3455761404#32, 4174827810#32, 493793528#32, 495765699#32⟩ := (rounds_next48 kb3 kb3v 38 kb3_r38 kb3_w38).trans (by kernel_rfl)
theorem kb3_r40 : roundsT kAt kb3 kb3v 40 = ⟨3370292615#32, 2779777716#32, 1993469013#32, 873821736#32, 3016967647#32, 3455761404#32, 4174827810#32, 493793528#32⟩ := (rounds_next48 kb3 kb3v 39 kb3_r39 kb3_w39).trans (by kernel_rfl)
theorem kb3_r41 : roundsT kAt kb3 kb3v 41 = ⟨2472203648#32, 3370292615#32, 2779777716#32, 1993469013#32, 237945277#32, 3016967647#32, 3455761404#32, 4174827810#32⟩ := (rounds_next48 kb3 kb3v 40 kb3_r40 kb3_w40).trans (by kernel_rfl)
theorem kb3_r42 : roundsT kAt kb3 kb3v 42 = ⟨1367211724#32, 2472203648#32, 3370292615#32, 2779777716#32, 1658398626#32, 237945277#32, 3016967647#32, 3455761404#32⟩ := (rounds_next48 kb3 kb3v 41 kb3_r41 kb3_w41).trans (by kernel_rfl)
theorem kb3_r43 : roundsT kAt kb3 kb3v 43 = ⟨2067385461#32, 1367211724#32, 2472203648#32, 3370292615#32, 967326860#32, 1658398626#32, 237945277#32, 3016967647#32⟩ := (rounds_next48 kb3 kb3v 42 kb3_r42 kb3_w42).trans (by kernel_rfl)
theorem kb3_r44 : roundsT kAt kb3 kb3v 44 = ⟨2143368650#32, 2067385461#32, 1367211724#32, 2472203648#32, 450195278#32, 967326860#32, 1658398626#32, 237945277#32⟩ := (rounds_next48 kb3 kb3v 43 kb3_r43 kb3_w43).trans (by kernel_rfl)
theorem kb3_r45 : roundsT kAt kb3 kb3v 45 = ⟨397140362#32, 2143368650#32, 2067385461#32, 1367211724#32, 4195884986#32, 450195278#32, 967326860#32, 1658398626#32⟩ := (rounds_next48 kb3 kb3v 44 kb3_r44 kb3_w44).trans (by kernel_rfl)
theorem kb3_r46 : roundsT kAt kb3 kb3v 46 = ⟨18426276#32, 397140362#32, 2143368650#32, 2067385461#32, 2897270083#32, 4195884986#32, 450195278#32, 967326860#32⟩ := (rounds_next48 kb3 kb3v 45 kb3_r45 kb3_w45).trans (by kernel_rfl)
theorem kb3_r47 : roundsT kAt kb3 kb3v 47 = ⟨4058691567#32, 18426276#32, 397140362#32, 2143368650#32, 735744054#32, 2897270083#32, 4195884986#32, 450195278#32⟩ := (rounds_next48 kb3 kb3v 46 kb3_r46 kb3_w46).trans (by kernel_rfl)
theorem kb3_r48 : roundsT kAt kb3 kb3v 48 = ⟨405663369#32, 4058691567#32, 18426276#32, 397140362#32, 2624120124#32, 735744054#32, 2897270083#32, 4195884986#32⟩ := (rounds_next48 kb3 kb3v 47 kb3_r47 kb3_w47).trans (by kernel_rfl)
theorem kb3_r49 : roundsT kAt kb3 kb3v 49 = ⟨1940997650#32, 405663369#32, 4058691567#32, 18426276#32, 4097431874#32, 2624120124#32, 735744054#32, 2897270083#32⟩ := (rounds_next48 kb3 kb3v 48 kb3_r48 kb3_w48).trans (by kernel_rfl)
theorem kb3_r50 : roundsT kAt kb3 kb3v 50 = ⟨662522309#32, 1940997650#32, 405663369#32, 4058691567#32, 1300563742#32, 4097431874#32, 2624120124#32, 735744054#32⟩ := (rounds_next48 kb3 kb3v 49 kb3_r49 kb3_w49).trans (by kernel_rfl)
theorem kb3_r51 : roundsT kAt kb3 kb3v 51 = ⟨3885504851#32, 662522309#32, 1940997650#32, 405663369#32, 3010725307#32, 1300563742#32, 4097431874#32, 2624120124#32⟩ := (rounds_next48 kb3 kb3v 50 kb3_r50 kb3_w50).trans (by kernel_rfl)
theorem kb3_r52 : roundsT kAt kb3 kb3v 52 = ⟨3412741590#32, 3885504851#32, 662522309#32, 1940997650#32, 683834882#32, 3010725307#32, 1300563742#32, 4097431874#32⟩ := (rounds_next48 kb3 kb3v 51 kb3_r51 kb3_w51).trans (by kernel_rfl)
theorem kb3_r53 : roundsT kAt kb3 kb3v 53 = ⟨2340202937#32, 3412741590#32, 3885504851#32, 662522309#32, 2723812074#32, 683834882#32, 3010725307#32, 1300563742#32⟩ := (rounds_next48 kb3 kb3v 52 kb3_r52 kb3_w52).trans (by kernel_rfl)
theorem kb3_r54 : roundsT kAt kb3 kb3v 54 = ⟨794227328#32, 2340202937#32, 3412741590#32, 3885504851#32, 2913376972#32, 2723812074#32, 683834882#32, 3010725307#32⟩ := (rounds_next48 kb3 kb3v 53 kb3_r53 kb3_w53).trans (by kernel_rfl)
theorem kb3_r55 : roundsT kAt kb3 kb3v 55 = ⟨1652658878#32, 794227328#32, 2340202937#32, 3412741590#32, 4202429399#32, 2913376972#32, 2723812074#32, 683834882#32⟩ := (rounds_next48 kb3 kb3v 54 kb3_r54 kb3_w54).trans (by kernel_rfl)
theorem kb3_r56 : roundsT kAt kb3 kb3v 56 = ⟨82042653#32, 1652658878#32, 794227328#32, 2340202937#32, 2581590290#32, 4202429399#32, 2913376972#32, 2723812074#32⟩ := (rounds_next48 kb3 kb3v 55 kb3_r55 kb3_w55).trans (by kernel_rfl)
theorem kb3_r57 : roundsT kAt kb3 kb3v 57 = ⟨472646604#32, 82042653#32, 1652658878#32, 794227328#32, 1245197855#32, 2581590290#32, 4202429399#32, 2913376972#32⟩ := (rounds_next48 kb3 kb3v 56 kb3_r56 kb3_w56).trans (by kernel_rfl)
theorem kb3_r58 : roundsT kAt kb3 kb3v 58 = ⟨1329002720#32, 472646604#32, 82042653#32, 1652658878#32, 3498542561#32, 1245197855#32, 2581590290#32, 4202429399#32⟩ := (rounds_next48 kb3 kb3v 57 kb3_r57 kb3_w57).trans (by kernel_rfl)
theorem kb3_r59 : roundsT kAt kb3 kb3v 59 = ⟨4175373818#32, 1329002720#32, 472646604#32, 82042653#32, 1074632249#32, 3498542561#32, 1245197855#32, 2581590290#32⟩ := (rounds_next48 kb3 kb3v 58 kb3_r58 kb3_w58).trans (by kernel_rfl)
theorem kb3_r60 : roundsT kAt kb3 kb3v 60 = ⟨564753459#32, 4175373818#32, 1329002720#32, 472646604#32, 3705097476#32, 1074632249#32, 3498542561#32, 1245197855#32⟩ := (rounds_next48 kb3 kb3v 59 kb3_r59 kb3_w59).trans (by kernel_rfl)
theorem kb3_r61 : roundsT kAt kb3 kb3v 61 = ⟨1861836192#32, 564753459#32, 4175373818#32, 1329002720#32, 1430409145#32, 3705097476#32, 1074632249#32, 3498542561#32⟩ := (rounds_next48 kb3 kb3v 60 kb3_r60 kb3_w60).trans (by kernel_rfl)
theorem kb3_r62 : roundsT kAt kb3 kb3v 62 = ⟨130136082#32, 1861836192#32, 564753459#32, 4175373818#32, 3660814887#32, 1430409145#32, 3705097476#32, 1074632249#32⟩ := (rounds_next48 kb3 kb3v 61 kb3_r61 kb3_w61).trans (by kernel_rfl)
theorem kb3_r63 : roundsT kAt kb3 kb3v 63 = ⟨4219602265#32, 130136082#32, 1861836192#32, 564753459#32, 2230818571#32, 3660814887#32, 1430409145#32, 3705097476#32⟩ := (rounds_next48 kb3 kb3v 62 kb3_r62 kb3_w62).trans (by kernel_rfl)
theorem kb3_r64 : roundsT kAt kb3 kb3v 64 = ⟨1727608214#32, 4219602265#32, 130136082#32, 1861836192#32, 3165082129#32, 2230818571#32, 3660814887#32, 1430409145#32⟩ := (rounds_next48 kb3 kb3v 63 kb3_r63 kb3_w63).trans (by kernel_rfl)
theorem kb3_mix : mixT kAt kb3v kb3 = ⟨2460700058#32, 523985234#32, 3165248926#32, 1773093876#32, 3466191919#32, 3571650553#32, 1925480485#32, 3120156655#32⟩ := (mix_eq48 kb3 kb3v kb3_r64).trans (by kernel_rfl)
def in48_t : List UInt8 := [61, 61, 61, 61, 61, 61, 61, 61, 61, 61, 61, 61, 61, 61, 61, 61, 61, 61, 61, 61, 54, 54, 54, 54, 54, 54, 54, 54, 54, 54, 54, 54, 54, 54, 54, 54, 54, 54, 54, 54, 54, 54, 54, 54, 54, 54, 54, 54, 54, 54, 54, 54, 54, 54, 54, 54, 54, 54, 54, 54, 54, 54, 54, 54, 72, 105, 32, 84, 104, 101, 114, 101]
theorem in48_pad : padT in48_t = kb2 ++ kb3 := by kernel_rfl
theorem in48_sum : sumW kAt iv0 in48_t = ⟨2460700058#32, 523985234#32, 3165248926#32, 1773093876#32, 3466191919#32, 3571650553#32, 1925480485#32, 3120156655#32⟩ := by
  unfold sumW
  rw [in48_pad]
  exact (two_block48 iv0 kb2 kb3 rfl rfl kb2_mix).trans kb3_mix
theorem in48_dig : digestT (bytesOf (sumW kAt iv0 in48_t)) = [146, 171, 77, 154, 31, 59, 97, 82, 188, 169, 221, 158, 105, 175, 67, 244, 206, 153, 228, 47, 212, 227, 15, 249, 114, 196, 128, 37, 185, 249, 207, 239] := by
  rw [in48_sum]
  kernel_rfl
def kb4 : List UInt8 := [87, 87, 87, 87, 87, 87, 87, 87, 87, 87, 87, 87, 87, 87, 87, 87, 87, 87, 87, 87, 92, 92, 92, 92, 92, 92, 92, 92, 92, 92, 92, 92, 92, 92, 92, 92, 92, 92, 92, 92, 92, 92, 92, 92, 92, 92, 92, 92, 92, 92, 92, 92, 92, 92, 92, 92, 92, 92, 92, 92, 92, 92, 92, 92]
def kb4v : Wds := ⟨1779033703#32, 3144134277#32, 1013904242#32, 2773480762#32, 1359893119#32, 2600822924#32, 528734635#32, 1541459225#32⟩
theorem kb4_w0 : wAt (schedTo kb4 64) 0 = 1465341783#32 := (sched_lo48 kb4 0 (by omega)).trans (by kernel_rfl)
theorem kb4_w1 : wAt (schedTo kb4 64) 1 = 1465341783#32 := (sched_lo48 kb4 1 (by omega)).trans (by kernel_rfl)
theorem kb4_w2 : wAt (schedTo kb4 64) 2 = 1465341783#32 := (sched_lo48 kb4 2 (by omega)).trans (by kernel_rfl)
theorem kb4_w3 : wAt (schedTo kb4 64) 3 = 1465341783#32 := (sched_lo48 kb4 3 (by omega)).trans (by kernel_rfl)
theorem kb4_w4 : wAt (schedTo kb4 64) 4 = 1465341783#32 := (sched_lo48 kb4 4 (by omega)).trans (by kernel_rfl)
theorem kb4_w5 : wAt (schedTo kb4 64) 5 = 1549556828#32 := (sched_lo48 kb4 5 (by omega)).trans (by kernel_rfl)
theorem kb4_w6 : wAt (schedTo kb4 64) 6 = 1549556828#32 := (sched_lo48 kb4 6 (by omega)).trans (by kernel_rfl)
theorem kb4_w7 : wAt (schedTo kb4 64) 7 = 1549556828#32 := (sched_lo48 kb4 7 (by omega)).trans (by kernel_rfl)
theorem kb4_w8 : wAt (schedTo kb4 64) 8 = 1549556828#32 := (sched_lo48 kb4 8 (by omega)).trans (by kernel_rfl)
theorem kb4_w9 : wAt (schedTo kb4 64) 9 = 1549556828#32 := (sched_lo48 kb4 9 (by omega)).trans (by kernel_rfl)
theorem kb4_w10 : wAt (schedTo kb4 64) 10 = 1549556828#32 := (sched_lo48 kb4 10 (by omega)).trans (by kernel_rfl)
theorem kb4_w11 : wAt (schedTo kb4 64) 11 = 1549556828#32 := (sched_lo48 kb4 11 (by omega)).trans (by kernel_rfl)
theorem kb4_w12 : wAt (schedTo kb4 64) 12 = 1549556828#32 := (sched_lo48 kb4 12 (by omega)).trans (by kernel_rfl)
theorem kb4_w13 : wAt (schedTo kb4 64) 13 = 1549556828#32 := (sched_lo48 kb4 13 (by omega)).trans (by kernel_rfl)
theorem kb4_w14 : wAt (schedTo kb4 64) 14 = 1549556828#32 := (sched_lo48 kb4 14 (by omega)).trans (by kernel_rfl)
theorem kb4_w15 : wAt (schedTo kb4 64) 15 = 1549556828#32 := (sched_lo48 kb4 15 (by omega)).trans (by kernel_rfl)
theorem kb4_w16 : wAt (schedTo kb4 64) 16 = 3405248502#32 := (sched_hi48 kb4 16 (by omega) (by omega) kb4_w0 kb4_w9 kb4_w1 kb4_w14).trans (by kernel_rfl)
theorem kb4_w17 : wAt (schedTo kb4 64) 17 = 3405248502#32 := (sched_hi48 kb4 17 (by omega) (by omega) kb4_w1 kb4_w10 kb4_w2 kb4_w15).trans (by kernel_rfl)
theorem kb4_w18 : wAt (schedTo kb4 64) 18 = 712787740#32 := (sched_hi48 kb4 18 (by omega) (by omega) kb4_w2 kb4_w11 kb4_w3 kb4_w16).trans (by kernel_rfl)
theorem kb4_w19 : wAt (schedTo kb4 64) 19 = 712787740#32 := (sched_hi48 kb4 19 (by omega) (by omega) kb4_w3 kb4_w12 kb4_w4 kb4_w17).trans (by kernel_rfl)
theorem kb4_w20 : wAt (schedTo kb4 64) 20 = 54454071#32 := (sched_hi48 kb4 20 (by omega) (by omega) kb4_w4 kb4_w13 kb4_w5 kb4_w18).trans (by kernel_rfl)
theorem kb4_w21 : wAt (schedTo kb4 64) 21 = 138669116#32 := (sched_hi48 kb4 21 (by omega) (by omega) kb4_w5 kb4_w14 kb4_w6 kb4_w19).trans (by kernel_rfl)
theorem kb4_w22 : wAt (schedTo kb4 64) 22 = 207260445#32 := (sched_hi48 kb4 22 (by omega) (by omega) kb4_w6 kb4_w15 kb4_w7 kb4_w20).trans (by kernel_rfl)
theorem kb4_w23 : wAt (schedTo kb4 64) 23 = 1460932168#32 := (sched_hi48 kb4 23 (by omega) (by omega) kb4_w7 kb4_w16 kb4_w8 kb4_w21).trans (by kernel_rfl)
theorem kb4_w24 : wAt (schedTo kb4 64) 24 = 3764824442#32 := (sched_hi48 kb4 24 (by omega) (by omega) kb4_w8 kb4_w17 kb4_w9 kb4_w22).trans (by kernel_rfl)
theorem kb4_w25 : wAt (schedTo kb4 64) 25 = 2985667591#32 := (sched_hi48 kb4 25 (by omega) (by omega) kb4_w9 kb4_w18 kb4_w10 kb4_w23).trans (by kernel_rfl)
theorem kb4_w26 : wAt (schedTo kb4 64) 26 = 2896624945#32 := (sched_hi48 kb4 26 (by omega) (by omega) kb4_w10 kb4_w19 kb4_w11 kb4_w24).trans (by kernel_rfl)
theorem kb4_w27 : wAt (schedTo kb4 64) 27 = 1735310182#32 := (sched_hi48 kb4 27 (by omega) (by omega) kb4_w11 kb4_w20 kb4_w12 kb4_w25).trans (by kernel_rfl)
theorem kb4_w28 : wAt (schedTo kb4 64) 28 = 2849650484#32 := (sched_hi48 kb4 28 (by omega) (by omega) kb4_w12 kb4_w21 kb4_w13 kb4_w26).trans (by kernel_rfl)
theorem kb4_w29 : wAt (schedTo kb4 64) 29 = 2543923345#32 := (sched_hi48 kb4 29 (by omega) (by omega) kb4_w13 kb4_w22 kb4_w14 kb4_w27).trans (by kernel_rfl)
theorem kb4_w30 : wAt (schedTo kb4 64) 30 = 3035317795#32 := (sched_hi48 kb4 30 (by omega) (by omega) kb4_w14 kb4_w23 kb4_w15 kb4_w28).trans (by kernel_rfl)
theorem kb4_w31 : wAt (schedTo kb4 64) 31 = 75021034#32 := (sched_hi48 kb4 31 (by omega) (by omega) kb4_w15 kb4_w24 kb4_w16 kb4_w29).trans (by kernel_rfl)
theorem kb4_w32 : wAt (schedTo kb4 64) 32 = 1377623522#32 := (sched_hi48 kb4 32 (by omega) (by omega) kb4_w16 kb4_w25 kb4_w17 kb4_w30).trans (by kernel_rfl)
theorem kb4_w33 : wAt (schedTo kb4 64) 33 = 4003777718#32 := (sched_hi48 kb4 33 (by omega) (by omega) kb4_w17 kb4_w26 kb4_w18 kb4_w31).trans (by kernel_rfl)
theorem kb4_w34 : wAt (schedTo kb4 64) 34 = 3022086638#32 := (sched_hi48 kb4 34 (by omega) (by omega) kb4_w18 kb4_w27 kb4_w19 kb4_w32).trans (by kernel_rfl)
theorem kb4_w35 : wAt (schedTo kb4 64) 35 = 2885215212#32 := (sched_hi48 kb4 35 (by omega) (by omega) kb4_w19 kb4_w28 kb4_w20 kb4_w33).trans (by kernel_rfl)
theorem kb4_w36 : wAt (schedTo kb4 64) 36 = 3118437603#32 := (sched_hi48 kb4 36 (by omega) (by omega) kb4_w20 kb4_w29 kb4_w21 kb4_w34).trans (by kernel_rfl)
theorem kb4_w37 : wAt (schedTo kb4 64) 37 = 3290765437#32 := (sched_hi48 kb4 37 (by omega) (by omega) kb4_w21 kb4_w30 kb4_w22 kb4_w35).trans (by kernel_rfl)
theorem kb4_w38 : wAt (schedTo kb4 64) 38 = 3816152648#32 := (sched_hi48 kb4 38 (by omega) (by omega) kb4_w22 kb4_w31 kb4_w23 kb4_w36).trans (by kernel_rfl)
theorem kb4_w39 : wAt (schedTo kb4 64) 39 = 465821790#32 := (sched_hi48 kb4 39 (by omega) (by omega) kb4_w23 kb4_w32 kb4_w24 kb4_w37).trans (by kernel_rfl)
theorem kb4_w40 : wAt (schedTo kb4 64) 40 = 2520635768#32 := (sched_hi48 kb4 40 (by omega) (by omega) kb4_w24 kb4_w33 kb4_w25 kb4_w38).trans (by kernel_rfl)
theorem kb4_w41 : wAt (schedTo kb4 64) 41 = 3149612491#32 := (sched_hi48 kb4 41 (by omega) (by omega) kb4_w25 kb4_w34 kb4_w26 kb4_w39).trans (by kernel_rfl)
theorem kb4_w42 : wAt (schedTo kb4 64) 42 = 525421453#32 := (sched_hi48 kb4 42 (by omega) (by omega) kb4_w26 kb4_w35 kb4_w27 kb4_w40).trans (by kernel_rfl)
theorem kb4_w43 : wAt (schedTo kb4 64) 43 = 3714477506#32 := (sched_hi48 kb4 43 (by omega) (by omega) kb4_w27 kb4_w36 kb4_w28 kb4_w41).trans (by kernel_rfl)
theorem kb4_w44 : wAt (schedTo kb4 64) 44 = 2024753500#32 := (sched_hi48 kb4 44 (by omega) (by omega) kb4_w28 kb4_w37 kb4_w29 kb4_w42).trans (by kernel_rfl)
theorem kb4_w45 : wAt (schedTo kb4 64) 45 = 4144090831#32 := (sched_hi48 kb4 45 (by omega) (by omega) kb4_w29 kb4_w38 kb4_w30 kb4_w43).trans (by kernel_rfl)
theorem kb4_w46 : wAt (schedTo kb4 64) 46 = 411575879#32 := (sched_hi48 kb4 46 (by omega) (by omega) kb4_w30 kb4_w39 kb4_w31 kb4_w44).trans (by kernel_rfl)
theorem kb4_w47 : wAt (schedTo kb4 64) 47 = 1926860789#32 := (sched_hi48 kb4 47 (by omega) (by omega) kb4_w31 kb4_w40 kb4_w32 kb4_w45).trans (by kernel_rfl)
theorem kb4_w48 : wAt (schedTo kb4 64) 48 = 1760156847#32 := (sched_hi48 kb4 48 (by omega) (by omega) kb4_w32 kb4_w41 kb4_w33 kb4_w46).trans (by kernel_rfl)
theorem kb4_w49 : wAt (schedTo kb4 64) 49 = 2544270733#32 := (sched_hi48 kb4 49 (by omega) (by omega) kb4_w33 kb4_w42 kb4_w34 kb4_w47).trans (by kernel_rfl)
theorem kb4_w50 : wAt (schedTo kb4 64) 50 = 1546910226#32 := (sched_hi48 kb4 50 (by omega) (by omega) kb4_w34 kb4_w43 kb4_w35 kb4_w48).trans (by kernel_rfl)
theorem kb4_w51 : wAt (schedTo kb4 64) 51 = 1265328578#32 := (sched_hi48 kb4 51 (by omega) (by omega) kb4_w35 kb4_w44 kb4_w36 kb4_w49).trans (by kernel_rfl)
theorem kb4_w52 : wAt (schedTo kb4 64) 52 = 3629213001#32 := (sched_hi48 kb4 52 (by omega) (by omega) kb4_w36 kb4_w45 kb4_w37 kb4_w50).trans (by kernel_rfl)
theorem kb4_w53 : wAt (schedTo kb4 64) 53 = 3014876524#32 := (sched_hi48 kb4 53 (by omega) (by omega) kb4_w37 kb4_w46 kb4_w38 kb4_w51).trans (by kernel_rfl)
theorem kb4_w54 : wAt (schedTo kb4 64) 54 = 1004777203#32 := (sched_hi48 kb4 54 (by omega) (by omega) kb4_w38 kb4_w47 kb4_w39 kb4_w52).trans (by kernel_rfl)
theorem kb4_w55 : wAt (schedTo kb4 64) 55 = 3751462295#32 := (sched_hi48 kb4 55 (by omega) (by omega) kb4_w39 kb4_w48 kb4_w40 kb4_w53).trans (by kernel_rfl)
theorem kb4_w56 : wAt (schedTo kb4 64) 56 = 570444359#32 := (sched_hi48 kb4 56 (by omega) (by omega) kb4_w40 kb4_w49 kb4_w41 kb4_w54).trans (by kernel_rfl)
theorem kb4_w57 : wAt (schedTo kb4 64) 57 = 2641755806#32 := (sched_hi48 kb4 57 (by omega) (by omega) kb4_w41 kb4_w50 kb4_w42 kb4_w55).trans (by kernel_rfl)
theorem kb4_w58 : wAt (schedTo kb4 64) 58 = 2626115803#32 := (sched_hi48 kb4 58 (by omega) (by omega) kb4_w42 kb4_w51 kb4_w43 kb4_w56).trans (by kernel_rfl)
theorem kb4_w59 : wAt (schedTo kb4 64) 59 = 1546075400#32 := (sched_hi48 kb4 59 (by omega) (by omega) kb4_w43 kb4_w52 kb4_w44 kb4_w57).trans (by kernel_rfl)
theorem kb4_w60 : wAt (schedTo kb4 64) 60 = 1718749777#32 := (sched_hi48 kb4 60 (by omega) (by omega) kb4_w44 kb4_w53 kb4_w45 kb4_w58).trans (by kernel_rfl)
theorem kb4_w61 : wAt (schedTo kb4 64) 61 = 818511040#32 := (sched_hi48 kb4 61 (by omega) (by omega) kb4_w45 kb4_w54 kb4_w46 kb4_w59).trans (by kernel_rfl)
theorem kb4_w62 : wAt (schedTo kb4 64) 62 = 3286355370#32 := (sched_hi48 kb4 62 (by omega) (by omega) kb4_w46 kb4_w55 kb4_w47 kb4_w60).trans (by kernel_rfl)
theorem kb4_w63 : wAt (schedTo kb4 64) 63 = 1270167668#32 := (sched_hi48 kb4 63 (by omega) (by omega) kb4_w47 kb4_w56 kb4_w48 kb4_w61).trans (by kernel_rfl)
theorem kb4_r0 : roundsT kAt kb4 kb4v 0 = ⟨1779033703#32, 3144134277#32, 1013904242#32, 2773480762#32, 1359893119#32, 2600822924#32, 528734635#32, 1541459225#32⟩ := rfl
theorem kb4_r1 : roundsT kAt kb4 kb4v 1 = ⟨1398792100#32, 1779033703#32, 3144134277#32, 1013904242#32, 4028578297#32, 1359893119#32, 2600822924#32, 528734635#32⟩ := (rounds_next48 kb4 kb4v 0 kb4_r0 kb4_w0).trans (by kernel_rfl)
theorem kb4_r2 : roundsT kAt kb4 kb4v 2 = ⟨744436999#32, 1398792100#32, 1779033703#32, 3144134277#32, 1458716026#32, 4028578297#32, 1359893119#32, 2600822924#32⟩ := (rounds_next48 kb4 kb4v 1 kb4_r1 kb4_w1).trans (by kernel_rfl)
theorem kb4_r3 : roundsT kAt kb4 kb4v 3 = ⟨3265694968#32, 744436999#32, 1398792100#32, 1779033703#32, 4088631629#32, 1458716026#32, 4028578297#32, 1359893119#32⟩ := (rounds_next48 kb4 kb4v 2 kb4_r2 kb4_w2).trans (by kernel_rfl)
theorem kb4_r4 : roundsT kAt kb4 kb4v 4 = ⟨3159216357#32, 3265694968#32, 744436999#32, 1398792100#32, 379307176#32, 4088631629#32, 1458716026#32, 4028578297#32⟩ := (rounds_next48 kb4 kb4v 3 kb4_r3 kb4_w3).trans (by kernel_rfl)
theorem kb4_r5 : roundsT kAt kb4 kb4v 5 = ⟨3628632817#32, 3159216357#32, 3265694968#32, 744436999#32, 2681984266#32, 379307176#32, 4088631629#32, 1458716026#32⟩ := (rounds_next48 kb4 kb4v 4 kb4_r4 kb4_w4).trans (by kernel_rfl)
theorem kb4_r6 : roundsT kAt kb4 kb4v 6 = ⟨3334812159#32, 3628632817#32, 3159216357#32, 3265694968#32, 388019836#32, 2681984266#32, 379307176#32, 4088631629#32⟩ := (rounds_next48 kb4 kb4v 5 kb4_r5 kb4_w5).trans (by kernel_rfl)
theorem kb4_r7 : roundsT kAt kb4 kb4v 7 = ⟨4031165403#32, 3334812159#32, 3628632817#32, 3159216357#32, 1813457553#32, 388019836#32, 2681984266#32, 379307176#32⟩ := (rounds_next48 kb4 kb4v 6 kb4_r6 kb4_w6).trans (by kernel_rfl)
theorem kb4_r8 : roundsT kAt kb4 kb4v 8 = ⟨439091945#32, 4031165403#32, 3334812159#32, 3628632817#32, 2385764049#32, 1813457553#32, 388019836#32, 2681984266#32⟩ := (rounds_next48 kb4 kb4v 7 kb4_r7 kb4_w7).trans (by kernel_rfl)
theorem kb4_r9 : roundsT kAt kb4 kb4v 9 = ⟨726012463#32, 439091945#32, 4031165403#32, 3334812159#32, 1333916531#32, 2385764049#32, 1813457553#32, 388019836#32⟩ := (rounds_next48 kb4 kb4v 8 kb4_r8 kb4_w8).trans (by kernel_rfl)
theorem kb4_r10 : roundsT kAt kb4 kb4v 10 = ⟨2515340287#32, 726012463#32, 439091945#32, 4031165403#32, 3733702909#32, 1333916531#32, 2385764049#32, 1813457553#32⟩ := (rounds_next48 kb4 kb4v 9 kb4_r9 kb4_w9).trans (by kernel_rfl)
theorem kb4_r11 : roundsT kAt kb4 kb4v 11 = ⟨311458432#32, 2515340287#32, 726012463#32, 439091945#32, 3636664236#32, 3733702909#32, 1333916531#32, 2385764049#32⟩ := (rounds_next48 kb4 kb4v 10 kb4_r10 kb4_w10).trans (by kernel_rfl)
theorem kb4_r12 : roundsT kAt kb4 kb4v 12 = ⟨3953590615#32, 311458432#32, 2515340287#32, 726012463#32, 1623220008#32, 3636664236#32, 3733702909#32, 1333916531#32⟩ := (rounds_next48 kb4 kb4v 11 kb4_r11 kb4_w11).trans (by kernel_rfl)
theorem kb4_r13 : roundsT kAt kb4 kb4v 13 = ⟨570532129#32, 3953590615#32, 311458432#32, 2515340287#32, 1297015990#32, 1623220008#32, 3636664236#32, 3733702909#32⟩ := (rounds_next48 kb4 kb4v 12 kb4_r12 kb4_w12).trans (by kernel_rfl)
theorem kb4_r14 : roundsT kAt kb4 kb4v 14 = ⟨3735426485#32, 570532129#32, 3953590615#32, 311458432#32, 184812518#32, 1297015990#32, 1623220008#32, 3636664236#32⟩ := (rounds_next48 kb4 kb4v 13 kb4_r13 kb4_w13).trans (by kernel_rfl)
theorem kb4_r15 : roundsT kAt kb4 kb4v 15 = ⟨3466920771#32, 3735426485#32, 570532129#32, 3953590615#32, 3023885671#32, 184812518#32, 1297015990#32, 1623220008#32⟩ := (rounds_next48 kb4 kb4v 14 kb4_r14 kb4_w14).trans (by kernel_rfl)
theorem kb4_r16 : roundsT kAt kb4 kb4v 16 = ⟨1084936678#32, 3466920771#32, 3735426485#32, 570532129#32, 3757217626#32, 3023885671#32, 184812518#32, 1297015990#32⟩ := (rounds_next48 kb4 kb4v 15 kb4_r15 kb4_w15).trans (by kernel_rfl)
theorem kb4_r17 : roundsT kAt kb4 kb4v 17 = ⟨2374741959#32, 1084936678#32, 3466920771#32, 3735426485#32, 747116244#32, 3757217626#32, 3023885671#32, 184812518#32⟩ := (rounds_next48 kb4 kb4v 16 kb4_r16 kb4_w16).trans (by kernel_rfl)
theorem kb4_r18 : roundsT kAt kb4 kb4v 18 = ⟨2973307781#32, 2374741959#32, 1084936678#32, 3466920771#32, 257035225#32, 747116244#32, 3757217626#32, 3023885671#32⟩ := (rounds_next48 kb4 kb4v 17 kb4_r17 kb4_w17).trans (by kernel_rfl)
theorem kb4_r19 : roundsT kAt kb4 kb4v 19 = ⟨386797496#32, 2973307781#32, 2374741959#32, 1084936678#32, 1339663175#32, 257035225#32, 747116244#32, 3757217626#32⟩ := (rounds_next48 kb4 kb4v 18 kb4_r18 kb4_w18).trans (by kernel_rfl)
theorem kb4_r20 : roundsT kAt kb4 kb4v 20 = ⟨3424371064#32, 386797496#32, 2973307781#32, 2374741959#32, 930981911#32, 1339663175#32, 257035225#32, 747116244#32⟩ := (rounds_next48 kb4 kb4v 19 kb4_r19 kb4_w19).trans (by kernel_rfl)
theorem kb4_r21 : roundsT kAt kb4 kb4v 21 = ⟨987453503#32, 3424371064#32, 386797496#32, 2973307781#32, 3683029150#32, 930981911#32, 1339663175#32, 257035225#32⟩ := (rounds_next48 kb4 kb4v 20 kb4_r20 kb4_w20).trans (by kernel_rfl)
theorem kb4_r22 : roundsT kAt kb4 kb4v 22 = ⟨2779810697#32, 987453503#32, 3424371064#32, 386797496#32, 3600701848#32, 3683029150#32, 930981911#32, 1339663175#32⟩ := (rounds_next48 kb4 kb4v 21 kb4_r21 kb4_w21).trans (by kernel_rfl)
theorem kb4_r23 : roundsT kAt kb4 kb4v 23 = ⟨1877205710#32, 2779810697#32, 987453503#32, 3424371064#32, 3813080925#32, 3600701848#32, 3683029150#32, 930981911#32⟩ := (rounds_next48 kb4 kb4v 22 kb4_r22 kb4_w22).trans (by kernel_rfl)
theorem kb4_r24 : roundsT kAt kb4 kb4v 24 = ⟨1364524872#32, 1877205710#32, 2779810697#32, 987453503#32, 3950786590#32, 3813080925#32, 3600701848#32, 3683029150#32⟩ := (rounds_next48 kb4 kb4v 23 kb4_r23 kb4_w23).trans (by kernel_rfl)
theorem kb4_r25 : roundsT kAt kb4 kb4v 25 = ⟨909776144#32, 1364524872#32, 1877205710#32, 2779810697#32, 1295641943#32, 3950786590#32, 3813080925#32, 3600701848#32⟩ := (rounds_next48 kb4 kb4v 24 kb4_r24 kb4_w24).trans (by kernel_rfl)
theorem kb4_r26 : roundsT kAt kb4 kb4v 26 = ⟨1279155436#32, 909776144#32, 1364524872#32, 1877205710#32, 757103841#32, 1295641943#32, 3950786590#32, 3813080925#32⟩ := (rounds_next48 kb4 kb4v 25 kb4_r25 kb4_w25).trans (by kernel_rfl)
theorem kb4_r27 : roundsT kAt kb4 kb4v 27 = ⟨4185492320#32, 1279155436#32, 909776144#32, 1364524872#32, 134269165#32, 757103841#32, 1295641943#32, 3950786590#32⟩ := (rounds_next48 kb4 kb4v 26 kb4_r26 kb4_w26).trans (by kernel_rfl)
theorem kb4_r28 : roundsT kAt kb4 kb4v 28 = ⟨152149837#32, 4185492320#32, 1279155436#32, 909776144#32, 1522030148#32, 134269165#32, 757103841#32, 1295641943#32⟩ := (rounds_next48 kb4 kb4v 27 kb4_r27 kb4_w27).trans (by kernel_rfl)
theorem kb4_r29 : roundsT kAt kb4 kb4v 29 = ⟨3091851464#32, 152149837#32, 4185492320#32, 1279155436#32, 2801353457#32, 1522030148#32, 134269165#32, 757103841#32⟩ := (rounds_next48 kb4 kb4v 28 kb4_r28 kb4_w28).trans (by kernel_rfl)
theorem kb4_r30 : roundsT kAt kb4 kb4v 30 = ⟨2457760217#32, 3091851464#32, 152149837#32, 4185492320#32, 3580799201#32, 2801353457#32, 1522030148#32, 134269165#32⟩ := (rounds_next48 kb4 kb4v 29 kb4_r29 kb4_w29).trans (by kernel_rfl)
theorem kb4_r31 : roundsT kAt kb4 kb4v 31 = ⟨718836855#32, 2457760217#32, 3091851464#32, 152149837#32, 2019802178#32, 3580799201#32, 2801353457#32, 1522030148#32⟩ := (rounds_next48 kb4 kb4v 30 kb4_r30 kb4_w30).trans (by kernel_rfl)
theorem kb4_r32 : roundsT kAt kb4 kb4v 32 = ⟨3229444491#32, 718836855#32, 2457760217#32, 3091851464#32, 64448653#32, 2019802178#32, 3580799201#32, 2801353457#32⟩ := (rounds_next48 kb4 kb4v 31 kb4_r31 kb4_w31).trans (by kernel_rfl)
theorem kb4_r33 : roundsT kAt kb4 kb4v 33 = ⟨2411208169#32, 3229444491#32, 718836855#32, 2457760217#32, 2073960014#32, 64448653#32, 2019802178#32, 3580799201#32⟩ := (rounds_next48 kb4 kb4v 32 kb4_r32 kb4_w32).trans (by kernel_rfl)
theorem kb4_r34 : roundsT kAt kb4 kb4v 34 = ⟨757229009#32, 2411208169#32, 3229444491#32, 718836855#32, 3352485179#32, 2073960014#32, 64448653#32, 2019802178#32⟩ := (rounds_next48 kb4 kb4v 33 kb4_r33 kb4_w33).trans (by kernel_rfl)
theorem kb4_r35 : roundsT kAt kb4 kb4v 35 = ⟨3621853218#32, 757229009#32, 2411208169#32, 3229444491#32, 2301266429#32, 3352485179#32, 2073960014#32, 64448653#32⟩ := (rounds_next48 kb4 kb4v 34 kb4_r34 kb4_w34).trans (by kernel_rfl)
theorem kb4_r36 : roundsT kAt kb4 kb4v 36 = ⟨3550411449#32, 3621853218#32, 757229009#32, 2411208169#32, 334353412#32, 2301266429#32, 3352485179#32, 2073960014#32⟩ := (rounds_next48 kb4 kb4v 35 kb4_r35 kb4_w35).trans (by kernel_rfl)
theorem kb4_r37 : roundsT kAt kb4 kb4v 37 = ⟨2018555503#32, 3550411449#32, 3621853218#32, 757229009#32, 1436718736#32, 334353412#32, 2301266429#32, 3352485179#32⟩ := (rounds_next48 kb4 kb4v 36 kb4_r36 kb4_w36).trans (by kernel_rfl)
theorem kb4_r38 : roundsT kAt kb4 kb4v 38 = ⟨3785957676#32, 2018555503#32, 3550411449#32, 3621853218#32, 189037011#32, 1436718736#32, 334353412#32, 2301266429#32⟩ := (rounds_next48 kb4 kb4v 37 kb4_r37 kb4_w37).trans (by kernel_rfl)
theorem kb4_r39 : roundsT kAt kb4 kb4v 39 = ⟨1537212325#32, 3785957676#32, 2018555503#32, 3550411449#32, 2891869974#32, 189037011#32, 1436718736#32, 334353412#32⟩ := (rounds_next48 kb4 kb4v 38 kb4_r38 kb4_w38).trans (by kernel_rfl)
theorem kb4_r40 : roundsT kAt kb4 kb4v 40 = ⟨19513669#32, 1537212325#32, 3785957676#32, 2018555503#32, 2264616537#32, 2891869974#32, 189037011#32, 1436718736#32⟩ := (rounds_next48 kb4 kb4v 39 kb4_r39 kb4_w39).trans (by kernel_rfl)
theorem kb4_r41 : roundsT kAt kb4 kb4v 41 = ⟨463226126#32, 19513669#32, 1537212325#32, 3785957676#32, 1692118333#32, 2264616537#32, 2891869974#32, 189037011#32⟩ := (rounds_next48 kb4 kb4v 40 kb4_r40 kb4_w40).trans (by kernel_rfl)
theorem kb4_r42 : roundsT kAt kb4 kb4v 42 = ⟨923048523#32, 463226126#32, 19513669#32, 1537212325#32, 495714467#32, 1692118333#32, 2264616537#32, 2891869974#32⟩ := (rounds_next48 kb4 kb4v 41 kb4_r41 kb4_w41).trans (by kernel_rfl)
theorem kb4_r43 : roundsT kAt kb4 kb4v 43 = ⟨2483738705#32, 923048523#32, 463226126#32, 19513669#32, 3467404349#32, 495714467#32, 1692118333#32, 2264616537#32⟩ := (rounds_next48 kb4 kb4v 42 kb4_r42 kb4_w42).trans (by kernel_rfl)
theorem kb4_r44 : roundsT kAt kb4 kb4v 44 = ⟨593181239#32, 2483738705#32, 923048523#32, 463226126#32, 2156450591#32, 3467404349#32, 495714467#32, 1692118333#32⟩ := (rounds_next48 kb4 kb4v 43 kb4_r43 kb4_w43).trans (by kernel_rfl)
theorem kb4_r45 : roundsT kAt kb4 kb4v 45 = ⟨1389854769#32, 593181239#32, 2483738705#32, 923048523#32, 3252822547#32, 2156450591#32, 3467404349#32, 495714467#32⟩ := (rounds_next48 kb4 kb4v 44 kb4_r44 kb4_w44).trans (by kernel_rfl)
theorem kb4_r46 : roundsT kAt kb4 kb4v 46 = ⟨2478646573#32, 1389854769#32, 593181239#32, 2483738705#32, 2904978252#32, 3252822547#32, 2156450591#32, 3467404349#32⟩ := (rounds_next48 kb4 kb4v 45 kb4_r45 kb4_w45).trans (by kernel_rfl)
theorem kb4_r47 : roundsT kAt kb4 kb4v 47 = ⟨4059857042#32, 2478646573#32, 1389854769#32, 593181239#32, 3104888258#32, 2904978252#32, 3252822547#32, 2156450591#32⟩ := (rounds_next48 kb4 kb4v 46 kb4_r46 kb4_w46).trans (by kernel_rfl)
theorem kb4_r48 : roundsT kAt kb4 kb4v 48 = ⟨1198611230#32, 4059857042#32, 2478646573#32, 1389854769#32, 1273245981#32, 3104888258#32, 2904978252#32, 3252822547#32⟩ := (rounds_next48 kb4 kb4v 47 kb4_r47 kb4_w47).trans (by kernel_rfl)
theorem kb4_r49 : roundsT kAt kb4 kb4v 49 = ⟨4132473709#32, 1198611230#32, 4059857042#32, 2478646573#32, 3907581488#32, 1273245981#32, 3104888258#32, 2904978252#32⟩ := (rounds_next48 kb4 kb4v 48 kb4_r48 kb4_w48).trans (by kernel_rfl)
theorem kb4_r50 : roundsT kAt kb4 kb4v 50 = ⟨2332092425#32, 4132473709#32, 1198611230#32, 4059857042#32, 3262601874#32, 3907581488#32, 1273245981#32, 3104888258#32⟩ := (rounds_next48 kb4 kb4v 49 kb4_r49 kb4_w49).trans (by kernel_rfl)
theorem kb4_r51 : roundsT kAt kb4 kb4v 51 = ⟨300393555#32, 2332092425#32, 4132473709#32, 1198611230#32, 459740591#32, 3262601874#32, 3907581488#32, 1273245981#32⟩ := (rounds_next48 kb4 kb4v 50 kb4_r50 kb4_w50).trans (by kernel_rfl)
theorem kb4_r52 : roundsT kAt kb4 kb4v 52 = ⟨1956985878#32, 300393555#32, 2332092425#32, 4132473709#32, 2959459453#32, 459740591#32, 3262601874#32, 3907581488#32⟩ := (rounds_next48 kb4 kb4v 51 kb4_r51 kb4_w51).trans (by kernel_rfl)
theorem kb4_r53 : roundsT kAt kb4 kb4v 53 = ⟨2473823325#32, 1956985878#32, 300393555#32, 2332092425#32, 2394142649#32, 2959459453#32, 459740591#32, 3262601874#32⟩ := (rounds_next48 kb4 kb4v 52 kb4_r52 kb4_w52).trans (by kernel_rfl)
theorem kb4_r54 : roundsT kAt kb4 kb4v 54 = ⟨2032297491#32, 2473823325#32, 1956985878#32, 300393555#32, 708481791#32, 2394142649#32, 2959459453#32, 459740591#32⟩ := (rounds_next48 kb4 kb4v 53 kb4_r53 kb4_w53).trans (by kernel_rfl)
theorem kb4_r55 : roundsT kAt kb4 kb4v 55 = ⟨3822223808#32, 2032297491#32, 2473823325#32, 1956985878#32, 491510921#32, 708481791#32, 2394142649#32, 2959459453#32⟩ := (rounds_next48 kb4 kb4v 54 kb4_r54 kb4_w54).trans (by kernel_rfl)
theorem kb4_r56 : roundsT kAt kb4 kb4v 56 = ⟨67744259#32, 3822223808#32, 2032297491#32, 2473823325#32, 138914909#32, 491510921#32, 708481791#32, 2394142649#32⟩ := (rounds_next48 kb4 kb4v 55 kb4_r55 kb4_w55).trans (by kernel_rfl)
theorem kb4_r57 : roundsT kAt kb4 kb4v 57 = ⟨82460473#32, 67744259#32, 3822223808#32, 2032297491#32, 3213420726#32, 138914909#32, 491510921#32, 708481791#32⟩ := (rounds_next48 kb4 kb4v 56 kb4_r56 kb4_w56).trans (by kernel_rfl)
theorem kb4_r58 : roundsT kAt kb4 kb4v 58 = ⟨1708145302#32, 82460473#32, 67744259#32, 3822223808#32, 3390677276#32, 3213420726#32, 138914909#32, 491510921#32⟩ := (rounds_next48 kb4 kb4v 57 kb4_r57 kb4_w57).trans (by kernel_rfl)
theorem kb4_r59 : roundsT kAt kb4 kb4v 59 = ⟨927054184#32, 1708145302#32, 82460473#32, 67744259#32, 152995682#32, 3390677276#32, 3213420726#32, 138914909#32⟩ := (rounds_next48 kb4 kb4v 58 kb4_r58 kb4_w58).trans (by kernel_rfl)
theorem kb4_r60 : roundsT kAt kb4 kb4v 60 = ⟨2167041420#32, 927054184#32, 1708145302#32, 82460473#32, 2667540429#32, 152995682#32, 3390677276#32, 3213420726#32⟩ := (rounds_next48 kb4 kb4v 59 kb4_r59 kb4_w59).trans (by kernel_rfl)
theorem kb4_r61 : roundsT kAt kb4 kb4v 61 = ⟨3123779758#32, 2167041420#32, 927054184#32, 1708145302#32, 3024256551#32, 2667540429#32, 152995682#32, 3390677276#32⟩ := (rounds_next48 kb4 kb4v 60 kb4_r60 kb4_w60).trans (by kernel_rfl)
theorem kb4_r62 : roundsT kAt kb4 kb4v 62 = ⟨442987376#32, 3123779758#32, 2167041420#32, 927054184#32, 494618383#32, 3024256551#32, 2667540429#32, 152995682#32⟩ := (rounds_next48 kb4 kb4v 61 kb4_r61 kb4_w61).trans (by kernel_rfl)
theorem kb4_r63 : roundsT kAt kb4 kb4v 63 = ⟨502167294#32, 442987376#32, 3123779758#32, 2167041420#32, 3124225836#32, 494618383#32, 3024256551#32, 2667540429#32⟩ := (rounds_next48 kb4 kb4v 62 kb4_r62 kb4_w62).trans (by kernel_rfl)
theorem kb4_r64 : roundsT kAt kb4 kb4v 64 = ⟨3185413432#32, 502167294#32, 442987376#32, 3123779758#32, 2605710603#32, 3124225836#32, 494618383#32, 3024256551#32⟩ := (rounds_next48 kb4 kb4v 63 kb4_r63 kb4_w63).trans (by kernel_rfl)
theorem kb4_mix : mixT kAt kb4v kb4 = ⟨669479839#32, 3646301571#32, 1456891618#32, 1602293224#32, 3965603722#32, 1430081464#32, 1023353018#32, 270748480#32⟩ := (mix_eq48 kb4 kb4v kb4_r64).trans (by kernel_rfl)
def kb5 : List UInt8 := [146, 171, 77, 154, 31, 59, 97, 82, 188, 169, 221, 158, 105, 175, 67, 244, 206, 153, 228, 47, 212, 227, 15, 249, 114, 196, 128, 37, 185, 249, 207, 239, 128, 0, 0, 0, 0, 0, 0, 0, 0, 0, 0, 0, 0, 0, 0, 0, 0, 0, 0, 0, 0, 0, 0, 0, 0, 0, 0, 0, 0, 0, 3, 0]
def kb5v : Wds := ⟨669479839#32, 3646301571#32, 1456891618#32, 1602293224#32, 3965603722#32, 1430081464#32, 1023353018#32, 270748480#32⟩
theorem kb5_w0 : wAt (schedTo kb5 64) 0 = 2460700058#32 := (sched_lo48 kb5 0 (by omega)).trans (by kernel_rfl)
theorem kb5_w1 : wAt (schedTo kb5 64) 1 = 523985234#32 := (sched_lo48 kb5 1 (by omega)).trans (by kernel_rfl)
theorem kb5_w2 : wAt (schedTo kb5 64) 2 = 3165248926#32 := (sched_lo48 kb5 2 (by omega)).trans (by kernel_rfl)
theorem kb5_w3 : wAt (schedTo kb5 64) 3 = 1773093876#32 := (sched_lo48 kb5 3 (by omega)).trans (by kernel_rfl)
theorem kb5_w4 : wAt (schedTo kb5 64) 4 = 3466191919#32 := (sched_lo48 kb5 4 (by omega)).trans (by kernel_rfl)
theorem kb5_w5 : wAt (schedTo kb5 64) 5 = 3571650553#32 := (sched_lo48 kb5 5 (by omega)).trans (by kernel_rfl)
theorem kb5_w6 : wAt (schedTo kb5 64) 6 = 1925480485#32 := (sched_lo48 kb5 6 (by omega)).trans (by kernel_rfl)
theorem kb5_w7 : wAt (schedTo kb5 64) 7 = 3120156655#32 := (sched_lo48 kb5 7 (by omega)).trans (by kernel_rfl)
theorem kb5_w8 : wAt (schedTo kb5 64) 8 = 2147483648#32 := (sched_lo48 kb5 8 (by omega)).trans (by kernel_rfl)
theorem kb5_w9 : wAt (schedTo kb5 64) 9 = 0#32 := (sched_lo48 kb5 9 (by omega)).trans (by kernel_rfl)
theorem kb5_w10 : wAt (schedTo kb5 64) 10 = 0#32 := (sched_lo48 kb5 10 (by omega)).trans (by kernel_rfl)
theorem kb5_w11 : wAt (schedTo kb5 64) 11 = 0#32 := (sched_lo48 kb5 11 (by omega)).trans (by kernel_rfl)
theorem kb5_w12 : wAt (schedTo kb5 64) 12 = 0#32 := (sched_lo48 kb5 12 (by omega)).trans (by kernel_rfl)
theorem kb5_w13 : wAt (schedTo kb5 64) 13 = 0#32 := (sched_lo48 kb5 13 (by omega)).trans (by kernel_rfl)
theorem kb5_w14 : wAt (schedTo kb5 64) 14 = 0#32 := (sched_lo48 kb5 14 (by omega)).trans (by kernel_rfl)
theorem kb5_w15 : wAt (schedTo kb5 64) 15 = 768#32 := (sched_lo48 kb5 15 (by omega)).trans (by kernel_rfl)
theorem kb5_w16 : wAt (schedTo kb5 64) 16 = 305720000#32 := (sched_hi48 kb5 16 (by omega) (by omega) kb5_w0 kb5_w9 kb5_w1 kb5_w14).trans (by kernel_rfl)
theorem kb5_w17 : wAt (schedTo kb5 64) 17 = 2124884084#32 := (sched_hi48 kb5 17 (by omega) (by omega) kb5_w1 kb5_w10 kb5_w2 kb5_w15).trans (by kernel_rfl)
theorem kb5_w18 : wAt (schedTo kb5 64) 18 = 1510084497#32 := (sched_hi48 kb5 18 (by omega) (by omega) kb5_w2 kb5_w11 kb5_w3 kb5_w16).trans (by kernel_rfl)
theorem kb5_w19 : wAt (schedTo kb5 64) 19 = 438327852#32 := (sched_hi48 kb5 19 (by omega) (by omega) kb5_w3 kb5_w12 kb5_w4 kb5_w17).trans (by kernel_rfl)
theorem kb5_w20 : wAt (schedTo kb5 64) 20 = 1066515913#32 := (sched_hi48 kb5 20 (by omega) (by omega) kb5_w4 kb5_w13 kb5_w5 kb5_w18).trans (by kernel_rfl)
theorem kb5_w21 : wAt (schedTo kb5 64) 21 = 1609325552#32 := (sched_hi48 kb5 21 (by omega) (by omega) kb5_w5 kb5_w14 kb5_w6 kb5_w19).trans (by kernel_rfl)
theorem kb5_w22 : wAt (schedTo kb5 64) 22 = 399377302#32 := (sched_hi48 kb5 22 (by omega) (by omega) kb5_w6 kb5_w15 kb5_w7 kb5_w20).trans (by kernel_rfl)
theorem kb5_w23 : wAt (schedTo kb5 64) 23 = 2210707916#32 := (sched_hi48 kb5 23 (by omega) (by omega) kb5_w7 kb5_w16 kb5_w8 kb5_w21).trans (by kernel_rfl)
theorem kb5_w24 : wAt (schedTo kb5 64) 24 = 3227738898#32 := (sched_hi48 kb5 24 (by omega) (by omega) kb5_w8 kb5_w17 kb5_w9 kb5_w22).trans (by kernel_rfl)
theorem kb5_w25 : wAt (schedTo kb5 64) 25 = 637612101#32 := (sched_hi48 kb5 25 (by omega) (by omega) kb5_w9 kb5_w18 kb5_w10 kb5_w23).trans (by kernel_rfl)
theorem kb5_w26 : wAt (schedTo kb5 64) 26 = 4160453393#32 := (sched_hi48 kb5 26 (by omega) (by omega) kb5_w10 kb5_w19 kb5_w11 kb5_w24).trans (by kernel_rfl)
theorem kb5_w27 : wAt (schedTo kb5 64) 27 = 4256527701#32 := (sched_hi48 kb5 27 (by omega) (by omega) kb5_w11 kb5_w20 kb5_w12 kb5_w25).trans (by kernel_rfl)
theorem kb5_w28 : wAt (schedTo kb5 64) 28 = 851679180#32 := (sched_hi48 kb5 28 (by omega) (by omega) kb5_w12 kb5_w21 kb5_w13 kb5_w26).trans (by kernel_rfl)
theorem kb5_w29 : wAt (schedTo kb5 64) 29 = 739061703#32 := (sched_hi48 kb5 29 (by omega) (by omega) kb5_w13 kb5_w22 kb5_w14 kb5_w27).trans (by kernel_rfl)
theorem kb5_w30 : wAt (schedTo kb5 64) 30 = 1033366030#32 := (sched_hi48 kb5 30 (by omega) (by omega) kb5_w14 kb5_w23 kb5_w15 kb5_w28).trans (by kernel_rfl)
theorem kb5_w31 : wAt (schedTo kb5 64) 31 = 2873573089#32 := (sched_hi48 kb5 31 (by omega) (by omega) kb5_w15 kb5_w24 kb5_w16 kb5_w29).trans (by kernel_rfl)
theorem kb5_w32 : wAt (schedTo kb5 64) 32 = 1840811135#32 := (sched_hi48 kb5 32 (by omega) (by omega) kb5_w16 kb5_w25 kb5_w17 kb5_w30).trans (by kernel_rfl)
theorem kb5_w33 : wAt (schedTo kb5 64) 33 = 2570643446#32 := (sched_hi48 kb5 33 (by omega) (by omega) kb5_w17 kb5_w26 kb5_w18 kb5_w31).trans (by kernel_rfl)
theorem kb5_w34 : wAt (schedTo kb5 64) 34 = 4250797991#32 := (sched_hi48 kb5 34 (by omega) (by omega) kb5_w18 kb5_w27 kb5_w19 kb5_w32).trans (by kernel_rfl)
theorem kb5_w35 : wAt (schedTo kb5 64) 35 = 3070697120#32 := (sched_hi48 kb5 35 (by omega) (by omega) kb5_w19 kb5_w28 kb5_w20 kb5_w33).trans (by kernel_rfl)
theorem kb5_w36 : wAt (schedTo kb5 64) 36 = 745900103#32 := (sched_hi48 kb5 36 (by omega) (by omega) kb5_w20 kb5_w29 kb5_w21 kb5_w34).trans (by kernel_rfl)
theorem kb5_w37 : wAt (schedTo kb5 64) 37 = 3093408808#32 := (sched_hi48 kb5 37 (by omega) (by omega) kb5_w21 kb5_w30 kb5_w22 kb5_w35).trans (by kernel_rfl)
theorem kb5_w38 : wAt (schedTo kb5 64) 38 = 3745640456#32 := (sched_hi48 kb5 38 (by omega) (by omega) kb5_w22 kb5_w31 kb5_w23 kb5_w36).trans (by kernel_rfl)
theorem kb5_w39 : wAt (schedTo kb5 64) 39 = 3129259102#32 := (sched_hi48 kb5 39 (by omega) (by omega) kb5_w23 kb5_w32 kb5_w24 kb5_w37).trans (by kernel_rfl)
theorem kb5_w40 : wAt (schedTo kb5 64) 40 = 3798752548#32 := (sched_hi48 kb5 40 (by omega) (by omega) kb5_w24 kb5_w33 kb5_w25 kb5_w38).trans (by kernel_rfl)
theorem kb5_w41 : wAt (schedTo kb5 64) 41 = 3552462741#32 := (sched_hi48 kb5 41 (by omega) (by omega) kb5_w25 kb5_w34 kb5_w26 kb5_w39).trans (by kernel_rfl)
theorem kb5_w42 : wAt (schedTo kb5 64) 42 = 1026149194#32 := (sched_hi48 kb5 42 (by omega) (by omega) kb5_w26 kb5_w35 kb5_w27 kb5_w40).trans (by kernel_rfl)
theorem kb5_w43 : wAt (schedTo kb5 64) 43 = 2433135419#32 := (sched_hi48 kb5 43 (by omega) (by omega) kb5_w27 kb5_w36 kb5_w28 kb5_w41).trans (by kernel_rfl)
theorem kb5_w44 : wAt (schedTo kb5 64) 44 = 2282802139#32 := (sched_hi48 kb5 44 (by omega) (by omega) kb5_w28 kb5_w37 kb5_w29 kb5_w42).trans (by kernel_rfl)
theorem kb5_w45 : wAt (schedTo kb5 64) 45 = 2088270030#32 := (sched_hi48 kb5 45 (by omega) (by omega) kb5_w29 kb5_w38 kb5_w30 kb5_w43).trans (by kernel_rfl)
theorem kb5_w46 : wAt (schedTo kb5 64) 46 = 2388087572#32 := (sched_hi48 kb5 46 (by omega) (by omega) kb5_w30 kb5_w39 kb5_w31 kb5_w44).trans (by kernel_rfl)
theorem kb5_w47 : wAt (schedTo kb5 64) 47 = 2441693099#32 := (sched_hi48 kb5 47 (by omega) (by omega) kb5_w31 kb5_w40 kb5_w32 kb5_w45).trans (by kernel_rfl)
theorem kb5_w48 : wAt (schedTo kb5 64) 48 = 1294656200#32 := (sched_hi48 kb5 48 (by omega) (by omega) kb5_w32 kb5_w41 kb5_w33 kb5_w46).trans (by kernel_rfl)
theorem kb5_w49 : wAt (schedTo kb5 64) 49 = 857739152#32 := (sched_hi48 kb5 49 (by omega) (by omega) kb5_w33 kb5_w42 kb5_w34 kb5_w47).trans (by kernel_rfl)
theorem kb5_w50 : wAt (schedTo kb5 64) 50 = 1270472850#32 := (sched_hi48 kb5 50 (by omega) (by omega) kb5_w34 kb5_w43 kb5_w35 kb5_w48).trans (by kernel_rfl)
theorem kb5_w51 : wAt (schedTo kb5 64) 51 = 789992311#32 := (sched_hi48 kb5 51 (by omega) (by omega) kb5_w35 kb5_w44 kb5_w36 kb5_w49).trans (by kernel_rfl)
theorem kb5_w52 : wAt (schedTo kb5 64) 52 = 2729335981#32 := (sched_hi48 kb5 52 (by omega) (by omega) kb5_w36 kb5_w45 kb5_w37 kb5_w50).trans (by kernel_rfl)
theorem kb5_w53 : wAt (schedTo kb5 64) 53 = 2699837802#32 := (sched_hi48 kb5 53 (by omega) (by omega) kb5_w37 kb5_w46 kb5_w38 kb5_w51).trans (by kernel_rfl)
theorem kb5_w54 : wAt (schedTo kb5 64) 54 = 3723048842#32 := (sched_hi48 kb5 54 (by omega) (by omega) kb5_w38 kb5_w47 kb5_w39 kb5_w52).trans (by kernel_rfl)
theorem kb5_w55 : wAt (schedTo kb5 64) 55 = 4078977574#32 := (sched_hi48 kb5 55 (by omega) (by omega) kb5_w39 kb5_w48 kb5_w40 kb5_w53).trans (by kernel_rfl)
theorem kb5_w56 : wAt (schedTo kb5 64) 56 = 1925545034#32 := (sched_hi48 kb5 56 (by omega) (by omega) kb5_w40 kb5_w49 kb5_w41 kb5_w54).trans (by kernel_rfl)
theorem kb5_w57 : wAt (schedTo kb5 64) 57 = 703692224#32 := (sched_hi48 kb5 57 (by omega) (by omega) kb5_w41 kb5_w50 kb5_w42 kb5_w55).trans (by kernel_rfl)
theorem kb5_w58 : wAt (schedTo kb5 64) 58 = 1203577958#32 := (sched_hi48 kb5 58 (by omega) (by omega) kb5_w42 kb5_w51 kb5_w43 kb5_w56).trans (by kernel_rfl)
theorem kb5_w59 : wAt (schedTo kb5 64) 59 = 1508661353#32 := (sched_hi48 kb5 59 (by omega) (by omega) kb5_w43 kb5_w52 kb5_w44 kb5_w57).trans (by kernel_rfl)
theorem kb5_w60 : wAt (schedTo kb5 64) 60 = 3975115419#32 := (sched_hi48 kb5 60 (by omega) (by omega) kb5_w44 kb5_w53 kb5_w45 kb5_w58).trans (by kernel_rfl)
theorem kb5_w61 : wAt (schedTo kb5 64) 61 = 3987018886#32 := (sched_hi48 kb5 61 (by omega) (by omega) kb5_w45 kb5_w54 kb5_w46 kb5_w59).trans (by kernel_rfl)
theorem kb5_w62 : wAt (schedTo kb5 64) 62 = 3986039688#32 := (sched_hi48 kb5 62 (by omega) (by omega) kb5_w46 kb5_w55 kb5_w47 kb5_w60).trans (by kernel_rfl)
theorem kb5_w63 : wAt (schedTo kb5 64) 63 = 1321509102#32 := (sched_hi48 kb5 63 (by omega) (by omega) kb5_w47 kb5_w56 kb5_w48 kb5_w61).trans (by kernel_rfl)
theorem kb5_r0 : roundsT kAt kb5 kb5v 0 = ⟨669479839#32, 3646301571#32, 1456891618#32, 1602293224#32, 3965603722#32, 1430081464#32, 1023353018#32, 270748480#32⟩ := rfl
theorem kb5_r1 : roundsT kAt kb5 kb5v 1 = ⟨1350989425#32, 669479839#32, 3646301571#32, 1456891618#32, 2405596563#32, 3965603722#32, 1430081464#32, 1023353018#32⟩ := (rounds_next48 kb5 kb5v 0 kb5_r0 kb5_w0).trans (by kernel_rfl)
theorem kb5_r2 : roundsT kAt kb5 kb5v 2 = ⟨1199380293#32, 1350989425#32, 669479839#32, 3646301571#32, 1310337447#32, 2405596563#32, 3965603722#32, 1430081464#32⟩ := (rounds_next48 kb5 kb5v 1 kb5_r1 kb5_w1).trans (by kernel_rfl)
theorem kb5_r3 : roundsT kAt kb5 kb5v 3 = ⟨2185491309#32, 1199380293#32, 1350989425#32, 669479839#32, 4094310007#32, 1310337447#32, 2405596563#32, 3965603722#32⟩ := (rounds_next48 kb5 kb5v 2 kb5_r2 kb5_w2).trans (by kernel_rfl)
theorem kb5_r4 : roundsT kAt kb5 kb5v 4 = ⟨3655088993#32, 2185491309#32, 1199380293#32, 1350989425#32, 3410681550#32, 4094310007#32, 1310337447#32, 2405596563#32⟩ := (rounds_next48 kb5 kb5v 3 kb5_r3 kb5_w3).trans (by kernel_rfl)
theorem kb5_r5 : roundsT kAt kb5 kb5v 5 = ⟨1140456332#32, 3655088993#32, 2185491309#32, 1199380293#32, 4086232890#32, 3410681550#32, 4094310007#32, 1310337447#32⟩ := (rounds_next48 kb5 kb5v 4 kb5_r4 kb5_w4).trans (by kernel_rfl)
theorem kb5_r6 : roundsT kAt kb5 kb5v 6 = ⟨4281418987#32, 1140456332#32, 3655088993#32, 2185491309#32, 1466044576#32, 4086232890#32, 3410681550#32, 4094310007#32⟩ := (rounds_next48 kb5 kb5v 5 kb5_r5 kb5_w5).trans (by kernel_rfl)
theorem kb5_r7 : roundsT kAt kb5 kb5v 7 = ⟨4059156238#32, 4281418987#32, 1140456332#32, 3655088993#32, 2059157318#32, 1466044576#32, 4086232890#32, 3410681550#32⟩ := (rounds_next48 kb5 kb5v 6 kb5_r6 kb5_w6).trans (by kernel_rfl)
theorem kb5_r8 : roundsT kAt kb5 kb5v 8 = ⟨2850519337#32, 4059156238#32, 4281418987#32, 1140456332#32, 2358910322#32, 2059157318#32, 1466044576#32, 4086232890#32⟩ := (rounds_next48 kb5 kb5v 7 kb5_r7 kb5_w7).trans (by kernel_rfl)
theorem kb5_r9 : roundsT kAt kb5 kb5v 9 = ⟨163415813#32, 2850519337#32, 4059156238#32, 4281418987#32, 351665552#32, 2358910322#32, 2059157318#32, 1466044576#32⟩ := (rounds_next48 kb5 kb5v 8 kb5_r8 kb5_w8).trans (by kernel_rfl)
theorem kb5_r10 : roundsT kAt kb5 kb5v 10 = ⟨2541622098#32, 163415813#32, 2850519337#32, 4059156238#32, 1616793893#32, 351665552#32, 2358910322#32, 2059157318#32⟩ := (rounds_next48 kb5 kb5v 9 kb5_r9 kb5_w9).trans (by kernel_rfl)
theorem kb5_r11 : roundsT kAt kb5 kb5v 11 = ⟨449678094#32, 2541622098#32, 163415813#32, 2850519337#32, 3149517218#32, 1616793893#32, 351665552#32, 2358910322#32⟩ := (rounds_next48 kb5 kb5v 10 kb5_r10 kb5_w10).trans (by kernel_rfl)
theorem kb5_r12 : roundsT kAt kb5 kb5v 12 = ⟨1833003344#32, 449678094#32, 2541622098#32, 163415813#32, 305910447#32, 3149517218#32, 1616793893#32, 351665552#32⟩ := (rounds_next48 kb5 kb5v 11 kb5_r11 kb5_w11).trans (by kernel_rfl)
theorem kb5_r13 : roundsT kAt kb5 kb5v 13 = ⟨1647946139#32, 1833003344#32, 449678094#32, 2541622098#32, 4164137828#32, 305910447#32, 3149517218#32, 1616793893#32⟩ := (rounds_next48 kb5 kb5v 12 kb5_r12 kb5_w12).trans (by kernel_rfl)
theorem kb5_r14 : roundsT kAt kb5 kb5v 14 = ⟨3101429709#32, 1647946139#32, 1833003344#32, 449678094#32, 1931305954#32, 4164137828#32, 305910447#32, 3149517218#32⟩ := (rounds_next48 kb5 kb5v 13 kb5_r13 kb5_w13).trans (by kernel_rfl)
theorem kb5_r15 : roundsT kAt kb5 kb5v 15 = ⟨196907161#32, 3101429709#32, 1647946139#32, 1833003344#32, 1573584350#32, 1931305954#32, 4164137828#32, 305910447#32⟩ := (rounds_next48 kb5 kb5v 14 kb5_r14 kb5_w14).trans (by kernel_rfl)
theorem kb5_r16 : roundsT kAt kb5 kb5v 16 = ⟨1274368016#32, 196907161#32, 3101429709#32, 1647946139#32, 1511330267#32, 1573584350#32, 1931305954#32, 4164137828#32⟩ := (rounds_next48 kb5 kb5v 15 kb5_r15 kb5_w15).trans (by kernel_rfl)
theorem kb5_r17 : roundsT kAt kb5 kb5v 17 = ⟨400020033#32, 1274368016#32, 196907161#32, 3101429709#32, 651567298#32, 1511330267#32, 1573584350#32, 1931305954#32⟩ := (rounds_next48 kb5 kb5v 16 kb5_r16 kb5_w16).trans (by kernel_rfl)
theorem kb5_r18 : roundsT kAt kb5 kb5v 18 = ⟨1293530000#32, 400020033#32, 1274368016#32, 196907161#32, 1900782811#32, 651567298#32, 1511330267#32, 1573584350#32⟩ := (rounds_next48 kb5 kb5v 17 kb5_r17 kb5_w17).trans (by kernel_rfl)
theorem kb5_r19 : roundsT kAt kb5 kb5v 19 = ⟨2118016643#32, 1293530000#32, 400020033#32, 1274368016#32, 1360713711#32, 1900782811#32, 651567298#32, 1511330267#32⟩ := (rounds_next48 kb5 kb5v 18 kb5_r18 kb5_w18).trans (by kernel_rfl)
theorem kb5_r20 : roundsT kAt kb5 kb5v 20 = ⟨266645622#32, 2118016643#32, 1293530000#32, 400020033#32, 701219419#32, 1360713711#32, 1900782811#32, 651567298#32⟩ := (rounds_next48 kb5 kb5v 19 kb5_r19 kb5_w19).trans (by kernel_rfl)
theorem kb5_r21 : roundsT kAt kb5 kb5v 21 = ⟨2302962499#32, 266645622#32, 2118016643#32, 1293530000#32, 3210149867#32, 701219419#32, 1360713711#32, 1900782811#32⟩ := (rounds_next48 kb5 kb5v 20 kb5_r20 kb5_w20).trans (by kernel_rfl)
theorem kb5_r22 : roundsT kAt kb5 kb5v 22 = ⟨925984220#32, 2302962499#32, 266645622#32, 2118016643#32, 3406184531#32, 3210149867#32, 701219419#32, 1360713711#32⟩ := (rounds_next48 kb5 kb5v 21 kb5_r21 kb5_w21).trans (by kernel_rfl)
theorem kb5_r23 : roundsT kAt kb5 kb5v 23 = ⟨771590478#32, 925984220#32, 2302962499#32, 266645622#32, 3055351387#32, 3406184531#32, 3210149867#32, 701219419#32⟩ := (rounds_next48 kb5 kb5v 22 kb5_r22 kb5_w22).trans (by kernel_rfl)
theorem kb5_r24 : roundsT kAt kb5 kb5v 24 = ⟨3225848550#32, 771590478#32, 925984220#32, 2302962499#32, 1804246278#32, 3055351387#32, 3406184531#32, 3210149867#32⟩ := (rounds_next48 kb5 kb5v 23 kb5_r23 kb5_w23).trans (by kernel_rfl)
theorem kb5_r25 : roundsT kAt kb5 kb5v 25 = ⟨1488266766#32, 3225848550#32, 771590478#32, 925984220#32, 3212299255#32, 1804246278#32, 3055351387#32, 3406184531#32⟩ := (rounds_next48 kb5 kb5v 24 kb5_r24 kb5_w24).trans (by kernel_rfl)
theorem kb5_r26 : roundsT kAt kb5 kb5v 26 = ⟨2616262066#32, 1488266766#32, 3225848550#32, 771590478#32, 392504312#32, 3212299255#32, 1804246278#32, 3055351387#32⟩ := (rounds_next48 kb5 kb5v 25 kb5_r25 kb5_w25).trans (by kernel_rfl)
theorem kb5_r27 : roundsT kAt kb5 kb5v 27 = ⟨1835832948#32, 2616262066#32, 1488266766#32, 3225848550#32, 970409624#32, 392504312#32, 3212299255#32, 1804246278#32⟩ := (rounds_next48 kb5 kb5v 26 kb5_r26 kb5_w26).trans (by kernel_rfl)
theorem kb5_r28 : roundsT kAt kb5 kb5v 28 = ⟨2363006865#32, 1835832948#32, 2616262066#32, 1488266766#32, 3632846069#32, 970409624#32, 392504312#32, 3212299255#32⟩ := (rounds_next48 kb5 kb5v 27 kb5_r27 kb5_w27).trans (by kernel_rfl)
theorem kb5_r29 : roundsT kAt kb5 kb5v 29 = ⟨1919993526#32, 2363006865#32, 1835832948#32, 2616262066#32, 1063863809#32, 3632846069#32, 970409624#32, 392504312#32⟩ := (rounds_next48 kb5 kb5v 28 kb5_r28 kb5_w28).trans (by kernel_rfl)
theorem kb5_r30 : roundsT kAt kb5 kb5v 30 = ⟨2027914468#32, 1919993526#32, 2363006865#32, 1835832948#32, 1042444288#32, 1063863809#32, 3632846069#32, 970409624#32⟩ := (rounds_next48 kb5 kb5v 29 kb5_r29 kb5_w29).trans (by kernel_rfl)
theorem kb5_r31 : roundsT kAt kb5 kb5v 31 = ⟨1317659479#32, 2027914468#32, 1919993526#32, 2363006865#32, 4229315825#32, 1042444288#32, 1063863809#32, 3632846069#32⟩ := (rounds_next48 kb5 kb5v 30 kb5_r30 kb5_w30).trans (by kernel_rfl)
theorem kb5_r32 : roundsT kAt kb5 kb5v 32 = ⟨2477091485#32, 1317659479#32, 2027914468#32, 1919993526#32, 3071209880#32, 4229315825#32, 1042444288#32, 1063863809#32⟩ := (rounds_next48 kb5 kb5v 31 kb5_r31 kb5_w31).trans (by kernel_rfl)
theorem kb5_r33 : roundsT kAt kb5 kb5v 33 = ⟨1743698031#32, 2477091485#32, 1317659479#32, 2027914468#32, 3659655822#32, 3071209880#32, 4229315825#32, 1042444288#32⟩ := (rounds_next48 kb5 kb5v 32 kb5_r32 kb5_w32).trans (by kernel_rfl)
theorem kb5_r34 : roundsT kAt kb5 kb5v 34 = ⟨501418609#32, 1743698031#32, 2477091485#32, 1317659479#32, 2930997253#32, 3659655822#32, 3071209880#32, 4229315825#32⟩ := (rounds_next48 kb5 kb5v 33 kb5_r33 kb5_w33).trans (by kernel_rfl)
theorem kb5_r35 : roundsT kAt kb5 kb5v 35 = ⟨3796027896#32, 501418609#32, 1743698031#32, 2477091485#32, 2148243679#32, 2930997253#32, 3659655822#32, 3071209880#32⟩ := (rounds_next48 kb5 kb5v 34 kb5_r34 kb5_w34).trans (by kernel_rfl)
theorem kb5_r36 : roundsT kAt kb5 kb5v 36 = ⟨3758138490#32, 3796027896#32, 501418609#32, 1743698031#32, 2404598461#32, 2148243679#32, 2930997253#32, 3659655822#32⟩ := (rounds_next48 kb5 kb5v 35 kb5_r35 kb5_w35).trans (by kernel_rfl)
theorem kb5_r37 : roundsT kAt kb5 kb5v 37 = ⟨2382127998#32, 3758138490#32, 3796027896#32, 501418609#32, 2086785242#32, 2404598461#32, 2148243679#32, 2930997253#32⟩ := (rounds_next48 kb5 kb5v 36 kb5_r36 kb5_w36).trans (by kernel_rfl)
theorem kb5_r38 : roundsT kAt kb5 kb5v 38 = ⟨3580382289#32, 2382127998#32, 3758138490#32, 3796027896#32, 3389253693#32, 2086785242#32, 2404598461#32, 2148243679#32⟩ := (rounds_next48 kb5 kb5v 37 kb5_r37 kb5_w37).trans (by kernel_rfl)
theorem kb5_r39 : roundsT kAt kb5 kb5v 39 = ⟨2618673506#32, 3580382289#32, 2382127998#32, 3758138490#32, 34222045#32, 3389253693#32, 2086785242#32, 2404598461#32⟩ := (rounds_next48 kb5 kb5v 38 kb5_r38 kb5_w38).trans (by kernel_rfl)
theorem kb5_r40 : roundsT kAt kb5 kb5v 40 = ⟨1042154802#32, 2618673506#32, 3580382289#32, 2382127998#32, 3312338868#32, 34222045#32, 3389253693#32, 2086785242#32⟩ := (rounds_next48 kb5 kb5v 39 kb5_r39 kb5_w39).trans (by kernel_rfl)
theorem kb5_r41 : roundsT kAt kb5 kb5v 41 = ⟨409443238#32, 1042154802#32, 2618673506#32, 3580382289#32, 742717550#32, 3312338868#32, 34222045#32, 3389253693#32⟩ := (rounds_next48 kb5 kb5v 40 kb5_r40 kb5_w40).trans (by kernel_rfl)
theorem kb5_r42 : roundsT kAt kb5 kb5v 42 = ⟨3297956112#32, 409443238#32, 1042154802#32, 2618673506#32, 3097220747#32, 742717550#32, 3312338868#32, 34222045#32⟩ := (rounds_next48 kb5 kb5v 41 kb5_r41 kb5_w41).trans (by kernel_rfl)
theorem kb5_r43 : roundsT kAt kb5 kb5v 43 = ⟨811595459#32, 3297956112#32, 409443238#32, 1042154802#32, 3178781491#32, 3097220747#32, 742717550#32, 3312338868#32⟩ := (rounds_next48 kb5 kb5v 42 kb5_r42 kb5_w42).trans (by kernel_rfl)
theorem kb5_r44 : roundsT kAt kb5 kb5v 44 = ⟨14376362#32, 811595459#32, 3297956112#32, 409443238#32, 684465100#32, 3178781491#32, 3097220747#32, 742717550#32⟩ := (rounds_next48 kb5 kb5v 43 kb5_r43 kb5_w43).trans (by kernel_rfl)
theorem kb5_r45 : roundsT kAt kb5 kb5v 45 = ⟨1851566738#32, 14376362#32, 811595459#32, 3297956112#32, 2245523203#32, 684465100#32, 3178781491#32, 3097220747#32⟩ := (rounds_next48 kb5 kb5v 44 kb5_r44 kb5_w44).trans (by kernel_rfl)
theorem kb5_r46 : roundsT kAt kb5 kb5v 46 = ⟨675538439#32, 1851566738#32, 14376362#32, 811595459#32, 248030877#32, 2245523203#32, 684465100#32, 3178781491#32⟩ := (rounds_next48 kb5 kb5v 45 kb5_r45 kb5_w45).trans (by kernel_rfl)
theorem kb5_r47 : roundsT kAt kb5 kb5v 47 = ⟨1182395863#32, 675538439#32, 1851566738#32, 14376362#32, 1489784537#32, 248030877#32, 2245523203#32, 684465100#32⟩ := (rounds_next48 kb5 kb5v 46 kb5_r46 kb5_w46).trans (by kernel_rfl)
theorem kb5_r48 : roundsT kAt kb5 kb5v 48 = ⟨4160226266#32, 1182395863#32, 675538439#32, 1851566738#32, 837180746#32, 1489784537#32, 248030877#32, 2245523203#32⟩ := (rounds_next48 kb5 kb5v 47 kb5_r47 kb5_w47).trans (by kernel_rfl)
theorem kb5_r49 : roundsT kAt kb5 kb5v 49 = ⟨667174692#32, 4160226266#32, 1182395863#32, 675538439#32, 3967825142#32, 837180746#32, 1489784537#32, 248030877#32⟩ := (rounds_next48 kb5 kb5v 48 kb5_r48 kb5_w48).trans (by kernel_rfl)
theorem kb5_r50 : roundsT kAt kb5 kb5v 50 = ⟨539456365#32, 667174692#32, 4160226266#32, 1182395863#32, 3198571050#32, 3967825142#32, 837180746#32, 1489784537#32⟩ := (rounds_next48 kb5 kb5v 49 kb5_r49 kb5_w49).trans (by kernel_rfl)
theorem kb5_r51 : roundsT kAt kb5 kb5v 51 = ⟨2896480706#32, 539456365#32, 667174692#32, 4160226266#32, 2089618125#32, 3198571050#32, 3967825142#32, 837180746#32⟩ := (rounds_next48 kb5 kb5v 50 kb5_r50 kb5_w50).trans (by kernel_rfl)
theorem kb5_r52 : roundsT kAt kb5 kb5v 52 = ⟨399116332#32, 2896480706#32, 539456365#32, 667174692#32, 1963092670#32, 2089618125#32, 3198571050#32, 3967825142#32⟩ := (rounds_next48 kb5 kb5v 51 kb5_r51 kb5_w51).trans (by kernel_rfl)
theorem kb5_r53 : roundsT kAt kb5 kb5v 53 = ⟨2272757039#32, 399116332#32, 2896480706#32, 539456365#32, 501413603#32, 1963092670#32, 2089618125#32, 3198571050#32⟩ := (rounds_next48 kb5 kb5v 52 kb5_r52 kb5_w52).trans (by kernel_rfl)
theorem kb5_r54 : roundsT kAt kb5 kb5v 54 = ⟨1669717167#32, 2272757039#32, 399116332#32, 2896480706#32, 3843121668#32, 501413603#32, 1963092670#32, 2089618125#32⟩ := (rounds_next48 kb5 kb5v 53 kb5_r53 kb5_w53).trans (by kernel_rfl)
theorem kb5_r55 : roundsT kAt kb5 kb5v 55 = ⟨3649028080#32, 1669717167#32, 2272757039#32, 399116332#32, 1400121080#32, 3843121668#32, 501413603#32, 1963092670#32⟩ := (rounds_next48 kb5 kb5v 54 kb5_r54 kb5_w54).trans (by kernel_rfl)
theorem kb5_r56 : roundsT kAt kb5 kb5v 56 = ⟨2631357987#32, 3649028080#32, 1669717167#32, 2272757039#32, 3120748860#32, 1400121080#32, 3843121668#32, 501413603#32⟩ := (rounds_next48 kb5 kb5v 55 kb5_r55 kb5_w55).trans (by kernel_rfl)
theorem kb5_r57 : roundsT kAt kb5 kb5v 57 = ⟨363235737#32, 2631357987#32, 3649028080#32, 1669717167#32, 3084153572#32, 3120748860#32, 1400121080#32, 3843121668#32⟩ := (rounds_next48 kb5 kb5v 56 kb5_r56 kb5_w56).trans (by kernel_rfl)
theorem kb5_r58 : roundsT kAt kb5 kb5v 58 = ⟨3484973890#32, 363235737#32, 2631357987#32, 3649028080#32, 29314364#32, 3084153572#32, 3120748860#32, 1400121080#32⟩ := (rounds_next48 kb5 kb5v 57 kb5_r57 kb5_w57).trans (by kernel_rfl)
theorem kb5_r59 : roundsT kAt kb5 kb5v 59 = ⟨2306517923#32, 3484973890#32, 363235737#32, 2631357987#32, 1026467939#32, 29314364#32, 3084153572#32, 3120748860#32⟩ := (rounds_next48 kb5 kb5v 58 kb5_r58 kb5_w58).trans (by kernel_rfl)
theorem kb5_r60 : roundsT kAt kb5 kb5v 60 = ⟨539154390#32, 2306517923#32, 3484973890#32, 363235737#32, 3646100318#32, 1026467939#32, 29314364#32, 3084153572#32⟩ := (rounds_next48 kb5 kb5v 59 kb5_r59 kb5_w59).trans (by kernel_rfl)
theorem kb5_r61 : roundsT kAt kb5 kb5v 61 = ⟨1334502211#32, 539154390#32, 2306517923#32, 3484973890#32, 504333495#32, 3646100318#32, 1026467939#32, 29314364#32⟩ := (rounds_next48 kb5 kb5v 60 kb5_r60 kb5_w60).trans (by kernel_rfl)
theorem kb5_r62 : roundsT kAt kb5 kb5v 62 = ⟨97667308#32, 1334502211#32, 539154390#32, 2306517923#32, 3924432562#32, 504333495#32, 3646100318#32, 1026467939#32⟩ := (rounds_next48 kb5 kb5v 61 kb5_r61 kb5_w61).trans (by kernel_rfl)
theorem kb5_r63 : roundsT kAt kb5 kb5v 63 = ⟨4286911184#32, 97667308#32, 1334502211#32, 539154390#32, 1950739951#32, 3924432562#32, 504333495#32, 3646100318#32⟩ := (rounds_next48 kb5 kb5v 62 kb5_r62 kb5_w62).trans (by kernel_rfl)
theorem kb5_r64 : roundsT kAt kb5 kb5v 64 = ⟨2286737602#32, 4286911184#32, 97667308#32, 1334502211#32, 2613015158#32, 1950739951#32, 3924432562#32, 504333495#32⟩ := (rounds_next48 kb5 kb5v 63 kb5_r63 kb5_w63).trans (by kernel_rfl)
theorem kb5_mix : mixT kAt kb5v kb5 = ⟨2956217441#32, 3638245459#32, 1554558926#32, 2936795435#32, 2283651584#32, 3380821415#32, 652818284#32, 775081975#32⟩ := (mix_eq48 kb5 kb5v kb5_r64).trans (by kernel_rfl)
def out48_t : List UInt8 := [87, 87, 87, 87, 87, 87, 87, 87, 87, 87, 87, 87, 87, 87, 87, 87, 87, 87, 87, 87, 92, 92, 92, 92, 92, 92, 92, 92, 92, 92, 92, 92, 92, 92, 92, 92, 92, 92, 92, 92, 92, 92, 92, 92, 92, 92, 92, 92, 92, 92, 92, 92, 92, 92, 92, 92, 92, 92, 92, 92, 92, 92, 92, 92, 146, 171, 77, 154, 31, 59, 97, 82, 188, 169, 221, 158, 105, 175, 67, 244, 206, 153, 228, 47, 212, 227, 15, 249, 114, 196, 128, 37, 185, 249, 207, 239]
theorem out48_pad : padT out48_t = kb4 ++ kb5 := by kernel_rfl
theorem out48_sum : sumW kAt iv0 out48_t = ⟨2956217441#32, 3638245459#32, 1554558926#32, 2936795435#32, 2283651584#32, 3380821415#32, 652818284#32, 775081975#32⟩ := by
  unfold sumW
  rw [out48_pad]
  exact (two_block48 iv0 kb4 kb5 rfl rfl kb4_mix).trans kb5_mix
theorem out48_dig : digestT (bytesOf (sumW kAt iv0 out48_t)) = [176, 52, 76, 97, 216, 219, 56, 83, 92, 168, 175, 206, 175, 11, 241, 43, 136, 29, 194, 0, 201, 131, 61, 167, 38, 233, 55, 108, 46, 50, 207, 247] := by
  rw [out48_sum]
  kernel_rfl
theorem hi_seal : sealT ⟨#[11, 11, 11, 11, 11, 11, 11, 11, 11, 11, 11, 11, 11, 11, 11, 11, 11, 11, 11, 11]⟩ ⟨#[72, 105, 32, 84, 104, 101, 114, 101]⟩ = ⟨#[98, 48, 51, 52, 52, 99, 54, 49, 100, 56, 100, 98, 51, 56, 53, 51, 53, 99, 97, 56, 97, 102, 99, 101, 97, 102, 48, 98, 102, 49, 50, 98, 56, 56, 49, 100, 99, 50, 48, 48, 99, 57, 56, 51, 51, 100, 97, 55, 50, 54, 101, 57, 51, 55, 54, 99, 50, 101, 51, 50, 99, 102, 102, 55]⟩ := by
  have h1 : kxT ((⟨#[11, 11, 11, 11, 11, 11, 11, 11, 11, 11, 11, 11, 11, 11, 11, 11, 11, 11, 11, 11]⟩ : ByteArray).data.toList) 54 ++ (⟨#[72, 105, 32, 84, 104, 101, 114, 101]⟩ : ByteArray).data.toList = in48_t := by kernel_rfl
  have h2 : kxT ((⟨#[11, 11, 11, 11, 11, 11, 11, 11, 11, 11, 11, 11, 11, 11, 11, 11, 11, 11, 11, 11]⟩ : ByteArray).data.toList) 92 ++ digB in48_t = out48_t := by
    unfold digB
    rw [in48_dig]
    kernel_rfl
  unfold sealT
  rw [if_pos (by decide), h1, h2]
  unfold digB
  rw [out48_dig]
  show (⟨_⟩ : ByteArray) = _
  kernel_rfl
end Go.Proofs.YtigloklddbcaoaaDoor
/-
  A drawn text, a drawn key: DrawHashSum, DrawSealOf; the laws FnHashSum, FnSealOf.
-/
namespace Go.Proofs.YtigloklddbcaoaaDoor
open Go.RowKit
set_option linter.unusedVariables false
set_option maxHeartbeats 1000000 in
theorem oneP_any (P : Int → Prop) (w : World) (blk p g n cap : Nat) (h : RdAt w blk p) (hp : p ≤ 1000000) (hn : 1 ≤ n) (hn' : n ≤ 1000)
    (hc : ∀ i, i < n → ∃ x : Int, w.cell? ⟨g, i, none⟩ = some (.int .i64 x) ∧ P x) (hg : g ≠ blk) :
    Calls Tryd.prog 14 #[.pointer (some ⟨blk, 0, none⟩), .slice (some ⟨g, 0, none⟩) n cap] w fun e w' => ∃ x : Int, e = .returned (.int .i64 x) ∧ P x ∧ RdAt w' blk (p + 1) ∧ Kept blk w w' := by
  have HC : Hid (∀ i, i < n → ∃ x : Int, w.cell? ⟨g, i, none⟩ = some (.int .i64 x) ∧ P x) := hc
  clear hc
  go_enter Tryd.func14, Tryd.ntmps14
  go_wp2_with fail
  refine (pick_any w blk p n h hp (by omega)).mono ?_
  rintro e w1 ⟨v, rfl, hv0, hv1, hr1, hk1⟩
  obtain ⟨i, rfl⟩ := Int.eq_ofNat_of_zero_le hv0
  have hi : i < n := by have := hv1 (by omega); omega
  obtain ⟨x, hx, hpx⟩ := HC.out i hi
  have hs1 : w1.cell? ⟨g, i, none⟩ = some (.int .i64 x) := by
    rw [hk1.cell (p := ⟨g, i, none⟩) ?_ hg]
    · exact hx
    · show g < w.heap.size
      rcases Nat.lt_or_ge g w.heap.size with hlt | hge
      · exact hlt
      · unfold World.cell? at hx
        rw [Array.getElem?_eq_none hge] at hx
        simp at hx
  have HR : Hid (RdAt w1 blk (p + 1)) := hr1
  have HP : Hid (P x) := hpx
  clear hv1 hr1 hx hpx
  go_wp2
  go_ret
  exact ⟨x, rfl, HP.out, HR.out, hk1⟩
set_option maxHeartbeats 1000000 in
theorem drawHashSum_any (w : World) (a : Option Addr) (len cap : Nat) (zs : List Int) (h : IsRow .u8 w a len cap zs) :
    Calls Tryd.prog 5 #[.slice a len cap] w fun e w' => ∃ s : ByteArray, e = .returned (.string s) ∧ s.size ≤ 1000 ∧ Below w.heap.size w w' := by
  have HI : Hid (IsRow .u8 w a len cap zs) := h
  clear h
  go_enter Tryd.func5, Tryd.ntmps5
  go_wp2_with fail
  refine (open_any w a len cap zs HI.out).mono ?_
  rintro e w1 ⟨rfl, hr1, hb1⟩
  have HR1 : Hid (RdAt w1 w.heap.size 0) := hr1
  have HB1 : Hid (Below w.heap.size w w1) := hb1
  clear hr1 hb1
  have HL : Hid (∀ i, i < 3 → ∃ s : ByteArray, (w1.alloc (.cells #[.string ⟨#[97]⟩, .string ⟨#[97, 98]⟩, .string ⟨#[0]⟩] 9)).cell? ⟨w1.heap.size, i, none⟩ = some (.string s) ∧ s.size ≤ 2) := by
    intro i hi
    have hb := heap_alloc_last w1 (.cells #[.string ⟨#[97]⟩, .string ⟨#[97, 98]⟩, .string ⟨#[0]⟩] 9)
    match i, hi with
    | 0, _ => exact ⟨_, by rw [cell_of_row _ _ 0 _ _ _ hb]; rfl, by decide⟩
    | 1, _ => exact ⟨_, by rw [cell_of_row _ _ 1 _ _ _ hb]; rfl, by decide⟩
    | 2, _ => exact ⟨_, by rw [cell_of_row _ _ 2 _ _ _ hb]; rfl, by decide⟩
  go_wp2_with fail
  refine (of_any (fun s => s.size ≤ 2) _ w.heap.size 0 w1.heap.size 3 3 (HR1.out.alloc _) (by omega) (by omega) (by omega) HL.out (by have := HR1.out.lt; omega)).mono ?_
  rintro e w3 ⟨s, rfl, hs, hr3, hk3⟩
  have HB3 : Hid (Below w.heap.size w w3) := (Kept.trans ((Kept.refl w.heap.size w1).alloc _) hk3).below HB1.out (Nat.le_refl _)
  have HR3 : Hid (RdAt w3 w.heap.size 1) := hr3
  clear hk3 hr3 HL
  have HN : Hid (∀ i, i < 7 → ∃ x : Int, (w3.alloc (.cells #[.int .i64 0, .int .i64 1, .int .i64 3, .int .i64 28, .int .i64 55, .int .i64 56, .int .i64 64] 3)).cell? ⟨w3.heap.size, i, none⟩ = some (.int .i64 x) ∧ (0 ≤ x ∧ x ≤ 64)) := by
    intro i hi
    have hb := heap_alloc_last w3 (.cells #[.int .i64 0, .int .i64 1, .int .i64 3, .int .i64 28, .int .i64 55, .int .i64 56, .int .i64 64] 3)
    match i, hi with
    | 0, _ => exact ⟨_, by rw [cell_of_row _ _ 0 _ _ _ hb]; rfl, by decide⟩
    | 1, _ => exact ⟨_, by rw [cell_of_row _ _ 1 _ _ _ hb]; rfl, by decide⟩
    | 2, _ => exact ⟨_, by rw [cell_of_row _ _ 2 _ _ _ hb]; rfl, by decide⟩
    | 3, _ => exact ⟨_, by rw [cell_of_row _ _ 3 _ _ _ hb]; rfl, by decide⟩
    | 4, _ => exact ⟨_, by rw [cell_of_row _ _ 4 _ _ _ hb]; rfl, by decide⟩
    | 5, _ => exact ⟨_, by rw [cell_of_row _ _ 5 _ _ _ hb]; rfl, by decide⟩
    | 6, _ => exact ⟨_, by rw [cell_of_row _ _ 6 _ _ _ hb]; rfl, by decide⟩
  go_wp2_with fail
  refine (oneP_any (fun x => 0 ≤ x ∧ x ≤ 64) _ w.heap.size 1 w3.heap.size 7 7 (HR3.out.alloc _) (by omega) (by omega) (by omega) HN.out (by have := HR3.out.lt; omega)).mono ?_
  rintro e w4 ⟨x, rfl, ⟨hx0, hx1⟩, -, hk4⟩
  have HB4 : Hid (Below w.heap.size w w4) := (Kept.trans ((Kept.refl w.heap.size w3).alloc _) hk4).below HB3.out (Nat.le_refl _)
  obtain ⟨n, rfl⟩ := Int.eq_ofNat_of_zero_le hx0
  have hn : n ≤ 64 := by omega
  have hsn : s.size * n ≤ 128 := Nat.mul_le_mul (by exact hs) hn
  clear hk4 HN
  go_wp2_with fail
  refine (l1Many_any s n w4 (by have : s.size ≤ 2 := hs; omega) (by omega) (by omega)).mono ?_
  rintro e w5 ⟨t, rfl, ht, he⟩
  rw [he]
  go_wp2
  go_ret
  exact ⟨t, rfl, by omega, HB4.out⟩
set_option maxHeartbeats 1000000 in
theorem drawSealOf_any (w : World) (a : Option Addr) (len cap : Nat) (zs : List Int) (h : IsRow .u8 w a len cap zs) :
    Calls Tryd.prog 8 #[.slice a len cap] w fun e w' => ∃ s t : ByteArray, e = .returned (.tuple #[.string s, .string t]) ∧ s.size ≤ 65 ∧ t.size ≤ 20 ∧ Below w.heap.size w w' := by
  have HI : Hid (IsRow .u8 w a len cap zs) := h
  clear h
  go_enter Tryd.func8, Tryd.ntmps8
  go_wp2_with fail
  refine (open_any w a len cap zs HI.out).mono ?_
  rintro e w1 ⟨rfl, hr1, hb1⟩
  have HR1 : Hid (RdAt w1 w.heap.size 0) := hr1
  have HB1 : Hid (Below w.heap.size w w1) := hb1
  clear hr1 hb1
  go_wp2_with fail
  refine (l1Many_any ⟨#[107]⟩ 64 w1 (by decide) (by decide) (by decide)).mono ?_
  rintro e w2 ⟨t, rfl, ht, he⟩
  rw [he]
  clear he
  have ht2 : t.size ≤ 65 := by have : (ByteArray.mk #[107]).size * 64 = 64 := rfl; omega
  go_wp2_with fail
  refine (l1Many_any ⟨#[107]⟩ 65 w1 (by decide) (by decide) (by decide)).mono ?_
  rintro e w3 ⟨u, rfl, hu, he⟩
  rw [he]
  clear he
  have hu2 : u.size ≤ 65 := by have : (ByteArray.mk #[107]).size * 65 = 65 := rfl; omega
  have HL : Hid (∀ i, i < 5 → ∃ s : ByteArray, (w1.alloc (.cells #[.string ⟨#[107, 101, 121]⟩, .string ⟨#[107]⟩, .string ⟨#[]⟩, .string t, .string u] 9)).cell? ⟨w1.heap.size, i, none⟩ = some (.string s) ∧ s.size ≤ 65) := by
    intro i hi
    have hb := heap_alloc_last w1 (.cells #[.string ⟨#[107, 101, 121]⟩, .string ⟨#[107]⟩, .string ⟨#[]⟩, .string t, .string u] 9)
    match i, hi with
    | 0, _ => exact ⟨_, by rw [cell_of_row _ _ 0 _ _ _ hb]; rfl, by decide⟩
    | 1, _ => exact ⟨_, by rw [cell_of_row _ _ 1 _ _ _ hb]; rfl, by decide⟩
    | 2, _ => exact ⟨_, by rw [cell_of_row _ _ 2 _ _ _ hb]; rfl, by decide⟩
    | 3, _ => exact ⟨t, by rw [cell_of_row _ _ 3 _ _ _ hb]; rfl, ht2⟩
    | 4, _ => exact ⟨u, by rw [cell_of_row _ _ 4 _ _ _ hb]; rfl, hu2⟩
  go_wp2_with fail
  refine (of_any (fun s => s.size ≤ 65) _ w.heap.size 0 w1.heap.size 5 5 (HR1.out.alloc _) (by omega) (by omega) (by omega) HL.out (by have := HR1.out.lt; omega)).mono ?_
  rintro e w4 ⟨s, rfl, hs, hr4, hk4⟩
  have HB4 : Hid (Below w.heap.size w w4) := (Kept.trans ((Kept.refl w.heap.size w1).alloc _) hk4).below HB1.out (Nat.le_refl _)
  have HR4 : Hid (RdAt w4 w.heap.size 1) := hr4
  have HS : Hid (s.size ≤ 65) := hs
  clear hk4 hr4 HL hs
  go_wp2_with fail
  refine (l13Word_any _ _ 1 HR4.out (by omega)).mono ?_
  rintro e w5 ⟨x, rfl, hx, _, hk5⟩
  have HB5 : Hid (Below w.heap.size w w5) := hk5.below HB4.out (Nat.le_refl _)
  unfold Drawn at hx
  clear hk5
  go_wp2
  refine bodyPost_ret (v := .tuple #[.string s, .string x]) (by simp [results, Tryd.results8, go_sem]) rfl ⟨s, x, rfl, HS.out, hx, HB5.out⟩
set_option maxHeartbeats 1000000 in
theorem fnHashSum_walk (a : Option Addr) (len cap : Nat) (zs : List Int) (w : World) (h : IsRow .u8 w a len cap zs) (hR : roundTab w) (hF : firstTab w) :
    Calls Tryd.prog 3 #[.slice a len cap] w fun e w' => e = .returned (.bool true) ∧ Below w.heap.size w w' := by
  have HI : Hid (IsRow .u8 w a len cap zs) := h
  have HR : Hid (roundTab w) := hR
  have HF : Hid (firstTab w) := hF
  clear h hR hF
  by_cases h0 : (1048576 : Int) < (len : Int)
  · go_enter Tryd.func3, Tryd.ntmps3
    go_wp2
    go_ret
    exact ⟨rfl, Below.refl _ _⟩
  · go_enter Tryd.func3, Tryd.ntmps3
    go_wp2_with fail
    refine (drawHashSum_any w a len cap zs HI.out).mono ?_
    rintro e w1 ⟨s, rfl, hs, hb1⟩
    have HB1 : Hid (Below w.heap.size w w1) := hb1
    clear hb1
    go_wp2_with fail
    refine (implHashSum_any _ s (by omega) (HR.out.below HB1.out) (HF.out.below HB1.out)).mono ?_
    rintro e w2 ⟨rfl, hb2⟩
    have HB2 : Hid (Below w.heap.size w w2) := HB1.out.trans (hb2.mono HB1.out.size)
    clear hb2
    go_wp2_with fail
    refine (specHashSum_any _ s (by omega)).mono ?_
    rintro e w3 ⟨rfl, hb3⟩
    have HB3 : Hid (Below w.heap.size w w3) := HB2.out.trans (hb3.mono HB2.out.size)
    clear hb3
    obtain ⟨hsh, hshe⟩ : ∃ x, hashT s = x := ⟨_, rfl⟩
    rw [hshe]
    clear hshe
    go_wp2_with fail
    refine (implHashSum_any _ ⟨#[97, 98, 99]⟩ (by decide) (HR.out.below HB3.out) (HF.out.below HB3.out)).mono ?_
    rintro e w4 ⟨rfl, hb4⟩
    have HB4 : Hid (Below w.heap.size w w4) := HB3.out.trans (hb4.mono HB3.out.size)
    rw [abc_hash]
    clear hb4
    go_wp2
    go_ret
    exact ⟨rfl, HB4.out⟩
set_option maxHeartbeats 1000000 in
theorem fnSealOf_walk (a : Option Addr) (len cap : Nat) (zs : List Int) (w : World) (h : IsRow .u8 w a len cap zs) (hR : roundTab w) (hF : firstTab w) :
    Calls Tryd.prog 4 #[.slice a len cap] w fun e w' => e = .returned (.bool true) ∧ Below w.heap.size w w' := by
  have HI : Hid (IsRow .u8 w a len cap zs) := h
  have HR : Hid (roundTab w) := hR
  have HF : Hid (firstTab w) := hF
  clear h hR hF
  by_cases h0 : (1048576 : Int) < (len : Int)
  · go_enter Tryd.func4, Tryd.ntmps4
    go_wp2
    go_ret
    exact ⟨rfl, Below.refl _ _⟩
  · go_enter Tryd.func4, Tryd.ntmps4
    go_wp2_with fail
    refine (drawSealOf_any w a len cap zs HI.out).mono ?_
    rintro e w1 ⟨s, t, rfl, hs, ht, hb1⟩
    have HB1 : Hid (Below w.heap.size w w1) := hb1
    clear hb1
    go_wp2_with fail
    refine (implSealOf_any _ s t (by unfold maxLen; omega) (by omega) (HR.out.below HB1.out) (HF.out.below HB1.out)).mono ?_
    rintro e w2 ⟨rfl, hb2⟩
    have HB2 : Hid (Below w.heap.size w w2) := HB1.out.trans (hb2.mono HB1.out.size)
    clear hb2
    go_wp2_with fail
    refine (specSealOf_any _ s t (by unfold maxLen; omega) (by omega)).mono ?_
    rintro e w3 ⟨rfl, hb3⟩
    have HB3 : Hid (Below w.heap.size w w3) := HB2.out.trans (hb3.mono HB2.out.size)
    clear hb3
    obtain ⟨hsh, hshe⟩ : ∃ x, sealT s t = x := ⟨_, rfl⟩
    rw [hshe]
    clear hshe
    go_wp2_with fail
    refine (implSealOf_any _ ⟨#[11, 11, 11, 11, 11, 11, 11, 11, 11, 11, 11, 11, 11, 11, 11, 11, 11, 11, 11, 11]⟩ ⟨#[72, 105, 32, 84, 104, 101, 114, 101]⟩ (by decide) (by decide) (HR.out.below HB3.out) (HF.out.below HB3.out)).mono ?_
    rintro e w4 ⟨rfl, hb4⟩
    have HB4 : Hid (Below w.heap.size w w4) := HB3.out.trans (hb4.mono HB3.out.size)
    rw [hi_seal]
    clear hb4
    go_wp2
    go_ret
    exact ⟨rfl, HB4.out⟩
end Go.Proofs.YtigloklddbcaoaaDoor
