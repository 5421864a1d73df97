/-
  Chapter 8: a looser reader; the program's side.
-/
import Derived.Test.YtffjpidjhcnnmabDoorR5
import Derived.Test.YtffjpidjhcnnmabDoorRB
import Derived.Test.YtffjpidjhcnnmabDoorCU
import Derived.Test.YtffjpidjhcnnmabDoorPT2
import Derived.Test.YtffjpidjhcnnmabDoorW13
import Derived.Test.YtffjpidjhcnnmabDoorW12
import Derived.Test.YtffjpidjhcnnmabDoorW3
import Derived.Test.YtffjpidjhcnnmabDoorW2
import Derived.Test.YtffjpidjhcnnmabDoorW1
import Derived.Test.YtffjpidjhcnnmabDoorW1b
import Derived.Test.YtffjpidjhcnnmabDoorQS
import Derived.Test.YtffjpidjhcnnmabDoorWI2
namespace Go.Proofs.YtffjpidjhcnnmabDoor
set_option linter.unusedVariables false
set_option linter.unusedSimpArgs false
open Go.RowKit
theorem Tryd.infoLn : (Tryd.prog.info? 56).map (·.size) = some 2 := by kernel_rfl
set_option maxRecDepth 100000 in
set_option maxHeartbeats 4000000 in
theorem readLooseLine_any (t : ByteArray) (w : World) (ht : t.size ≤ 1048576) :
    Calls Tryd.prog 37 #[.string t] w fun e w' => e = .returned (.tuple #[.agg #[.string (llnV t).1, .string (llnV t).2], .bool (llnO t)]) ∧ Below w.heap.size w w' := by
  have HC := hideB2 (fun W => CutS_any t 58 W (by unfold maxLen; omega))
  have z1 := uptS_size 58 t
  have z2 := bhS_size 58 t
  have HF := hideB2 (fun W => Fold_any (uptS 58 t) W (by unfold maxLen; omega))
  have HT := hideB2 (fun W => Trim_any (bhS 58 t) W (by unfold maxLen; omega))
  have HK := hideB2 (fun W => Token_any (uptS 58 t) W (by unfold maxLen; omega))
  have z3 := trimB_size (bhS 58 t)
  have HP := hideB2 (fun W => plainText_any (trimB (bhS 58 t)) W (by unfold maxLen; omega))
  show Calls _ _ _ _ fun e w' => e = .returned (.tuple #[.agg #[.string (foldB (uptS 58 t)), .string (trimB (bhS 58 t))], .bool (hasS 58 t && tokB (uptS 58 t) && plnB (trimB (bhS 58 t)))]) ∧ Below w.heap.size w w'
  have A0 := hideB2 (Blk.new w #[.string ⟨#[]⟩, .string ⟨#[]⟩] 56)
  have HB0 := hideB2 (below_a1 w (.cells #[.string ⟨#[]⟩, .string ⟨#[]⟩] 56))
  generalize hasS 58 t = fo at *
  generalize tokB (uptS 58 t) = tk at *
  generalize plnB (trimB (bhS 58 t)) = pl at *
  generalize foldB (uptS 58 t) = x at *
  generalize trimB (bhS 58 t) = y at *
  generalize uptS 58 t = u at *
  generalize bhS 58 t = v at *
  clear z1 z2 z3
  cases fo <;> cases tk <;> cases pl
  all_goals
    go_enter Tryd.func37, Tryd.ntmps37
    go_wp2_with fail
    refine (HC.out _).mono ?_
    rintro e w1 ⟨rfl, hb1⟩
    have A1 := hideB2 (A0.out.later hb1)
    have HB1 := hideB2 (below_then HB0.out hb1)
    clear hb1
    go_wp2_with fail
    refine (HF.out _).mono ?_
    rintro e w2 ⟨rfl, hb2⟩
    have A2 := hideB2 (A1.out.later hb2)
    have HB2 := hideB2 (below_then HB1.out hb2)
    clear hb2
    go_wp2_with fail
    refine (HT.out _).mono ?_
    rintro e w3 ⟨rfl, rfl⟩
    have A3 := hideB2 (A2.out.alloc (.cells #[.string x, .string y] 56))
    have B3 := hideB2 (Blk.new w3 #[.string x, .string y] 56)
    have HB3 := hideB2 (below_then HB2.out (below_a1 w3 (.cells #[.string x, .string y] 56)))
    obtain ⟨p0, p1⟩ := B3.out.c2
    have f0 := A3.out.free 0
    have f1 := A3.out.free 1
    obtain ⟨q0, q1⟩ := A3.out.c2
    have hlt := (A2.out).lt
    have hne : w.heap.size ≠ w3.heap.size := by omega
    have hne' : w3.heap.size ≠ w.heap.size := by omega
    clear A0 A1 A2 HB0 HB1 HB2
    go_wp2
    refine wp_region_strag (fun w' => ∃ m, w' = (w3.alloc (.cells #[.string x, .string y] 56)).drewN m) 11 10 ?_ ?_ rfl (fun a v hy => pick_pure rfl _ ⟨0, rfl⟩ a v hy) ?_ ⟨1, rfl⟩ ?_
    · kernel_rfl
    · kernel_rfl
    · intro v c a w h; exact h
    simp only [List.take_succ_cons, List.take_zero, List.drop_succ_cons, List.drop_zero]
    repeat (go_big_quiet_step (first | (go_at_call 41; exact Calls.quiet_of_same (HK.out _)) | (go_at_call 51; exact Calls.quiet_of_same (HP.out _))))
    refine wpQuiet_nil ?_
    rintro _ ⟨nq, rfl⟩
    go_wp2
    refine bodyPost_ret (results_cellT rfl _ _ _ rfl ((A3.out.drewN nq).set2 _ _) Tryd.underlying56 Tryd.infoLn) rfl ⟨rfl, ?_⟩
    exact ((below_drewN HB3.out nq).setCell (p := ⟨w.heap.size, 0, none⟩) (Nat.le_refl _) _).setCell (p := ⟨w.heap.size, 1, none⟩) (Nat.le_refl _) _
end Go.Proofs.YtffjpidjhcnnmabDoor
