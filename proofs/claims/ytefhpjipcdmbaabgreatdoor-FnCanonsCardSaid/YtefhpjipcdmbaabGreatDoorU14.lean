/-
  Chapter 7: an address in its one form; both sides; addresses held against each other.
-/
import Derived.Test.YtefhpjipcdmbaabGreatDoorU13
namespace Go.Proofs.YtefhpjipcdmbaabGreatDoor
set_option linter.unusedVariables false
set_option linter.unusedSimpArgs false
open Go.RowKit
theorem rdK_ho (r : ByteArray) : (rdK r).ho = foldB (uptS 58 (auU r)) := by simp only [rdK]
theorem rdK_pa (r : ByteArray) : (rdK r).pa = clnB (if (uptS 63 (reU r)).size = 0 then rootB else uptS 63 (reU r)) := by simp only [rdK]
theorem rdK_qu (r : ByteArray) : (rdK r).qu = bhS 63 r := by simp only [rdK]
theorem rdU_sizes (s : ByteArray) : (rdU s).ho.size ≤ s.size ∧ (rdU s).pa.size ≤ 202 ∧ (rdU s).qu.size ≤ s.size := by
  have h1 := uptS_size 58 (auU (s.extract 7 s.size))
  have h2 := auU_size (s.extract 7 s.size)
  have h3 : (s.extract 7 s.size).size ≤ s.size := by rw [ByteArray.size_extract]; omega
  have h4 := bhS_size 63 (s.extract 7 s.size)
  have h5 := clnB_size (if (uptS 63 (reU (s.extract 7 s.size))).size = 0 then rootB else uptS 63 (reU (s.extract 7 s.size)))
  rw [← rdK_pa] at h5
  rw [← rdK_qu] at h4
  rw [← foldB_size, ← rdK_ho] at h1
  unfold rdU
  generalize rdK (s.extract 7 s.size) = K at *
  by_cases h : rdO s = true
  · rw [if_pos h]
    exact ⟨by omega, h5, by omega⟩
  · rw [if_neg h]
    have e : ur0.ho.size = 0 ∧ ur0.pa.size = 0 ∧ ur0.qu.size = 0 := ⟨rfl, rfl, rfl⟩
    omega
theorem ret_sbU {s t : ByteArray} {a b : Bool} (h : t = s) (h' : b = a) : Ending.returned (.tuple #[.string s, .bool a]) = .returned (.tuple #[.string t, .bool b]) := by rw [h, h']
def canB (s : ByteArray) : ByteArray := textB (rdU s).ho (rdU s).pa (rdU s).qu (rdU s).po (rdU s).hq
theorem urQ_zero : urQ ur0 = false := urQ_port rfl
theorem canB_no {s : ByteArray} (h : rdO s = false) : canB s = ⟨#[]⟩ := by
  unfold canB
  rw [rdU_no h]
  unfold textB
  rw [if_neg]
  have := urQ_zero
  unfold urQ at this
  rw [this]; simp
set_option maxHeartbeats 2000000 in
theorem Canon_any (s : ByteArray) (w : World) (hs : s.size ≤ 1048576) (htab : Tab10 w) :
    Calls Tryz.prog 19 #[.string s] w fun e w' => e = .returned (.tuple #[.string (canB s), .bool (rdO s)]) ∧ Below w.heap.size w w' := by
  have HR := hideB2 (fun W (h : Tab10 W) => ReadUrl_any s W hs h)
  have HT := hideB2 htab
  obtain ⟨z1, z2, z3⟩ := rdU_sizes s
  unfold canB
  clear htab
  generalize rdU s = u at *
  generalize rdO s = O at *
  obtain ⟨ho, pa, qu, po, hq⟩ := u
  simp only [valU] at HR
  simp only at z1 z2 z3
  have HX := hideB2 (fun W (h : Tab10 W) => UrlText_any ho pa qu po hq W h (by omega) (by omega) (by omega))
  show Calls _ _ _ _ fun e w' => e = .returned (.tuple #[.string (textB ho pa qu po hq), .bool O]) ∧ Below w.heap.size w w'
  generalize textB ho pa qu po hq = T at *
  go_enter Tryz.func19, Tryz.ntmps19
  go_wp2_with fail
  refine (HR.out _ HT.out).mono ?_
  rintro e w1 ⟨rfl, hb1⟩
  have hb1' := below_then hb1 (below_a1 w1 (.cells #[.string ho, .int .i64 po, .string pa, .string qu, .bool hq] 23))
  have HB1 := hideB2 hb1'
  clear hb1 hb1'
  go_wp2_with (go_at_call 23; refine (HX.out _ (tab_later HT.out HB1.out)).mono ?_; rintro e w2 ⟨rfl, hb2⟩)
  go_ret2
  exact ⟨rfl, below_then HB1.out hb2⟩
set_option maxHeartbeats 2000000 in
theorem sCanon_any (s : ByteArray) (w : World) (hs : s.size ≤ 1048576) :
    Calls Tryz.prog 20 #[.string s] w fun e w' => e = .returned (.tuple #[.string (canB s), .bool (rdO s)]) ∧ Below w.heap.size w w' := by
  have HR := hideB2 (fun W => sReadUrl_any s W hs)
  have HN := hideB2 (fun (h : rdO s = false) => canB_no h)
  obtain ⟨z1, z2, z3⟩ := rdU_sizes s
  have hcan : canB s = textB (rdU s).ho (rdU s).pa (rdU s).qu (rdU s).po (rdU s).hq := rfl
  generalize canB s = C at *
  generalize rdU s = u at *
  generalize rdO s = O at *
  obtain ⟨ho, pa, qu, po, hq⟩ := u
  simp only [valU] at HR
  simp only at z1 z2 z3 hcan
  have HX := hideB2 (fun W => sUrlText_any ho pa qu po hq W (by omega) (by omega) (by omega))
  rw [← hcan] at HX
  clear hcan
  cases O
  · have HF := hideB2 (HN.out rfl)
    go_enter Tryz.func20, Tryz.ntmps20
    go_wp2_with fail
    refine (HR.out _).mono ?_
    rintro e w1 ⟨rfl, hb1⟩
    have HB1 := hideB2 (below_then hb1 (below_a1 w1 (.cells #[.string ho, .int .i64 po, .string pa, .string qu, .bool hq] 23)))
    clear hb1
    go_wp2
    go_ret2
    exact ⟨ret_sbU HF.out rfl, HB1.out⟩
  · go_enter Tryz.func20, Tryz.ntmps20
    go_wp2_with fail
    refine (HR.out _).mono ?_
    rintro e w1 ⟨rfl, hb1⟩
    have HB1 := hideB2 (below_then hb1 (below_a1 w1 (.cells #[.string ho, .int .i64 po, .string pa, .string qu, .bool hq] 23)))
    clear hb1
    go_wp2_with (go_at_call 53; refine (HX.out _).mono ?_; rintro e w2 ⟨rfl, hb2⟩)
    go_ret2
    exact ⟨rfl, below_then HB1.out hb2⟩
set_option maxHeartbeats 1000000 in
theorem eqUrl_same (ho pa qu : ByteArray) (po : Int) (hq : Bool) (w : World) :
    Calls Tryz.prog 10 #[.agg #[.string ho, .int .i64 po, .string pa, .string qu, .bool hq], .agg #[.string ho, .int .i64 po, .string pa, .string qu, .bool hq]] w fun e w' => e = .returned (.bool true) ∧ Below w.heap.size w w' := by
  have HB := hideB2 (below_a2 w (.cells #[.string ho, .int .i64 po, .string pa, .string qu, .bool hq] 23) (.cells #[.string ho, .int .i64 po, .string pa, .string qu, .bool hq] 23))
  have e1 : (ho.toList == ho.toList) = true := by simp
  have e2 : (pa.toList == pa.toList) = true := by simp
  have e3 : (qu.toList == qu.toList) = true := by simp
  have e4 : (po != po) = false := by simp
  have e5 : (hq != hq) = false := by cases hq <;> rfl
  go_enter Tryz.func10, Tryz.ntmps10
  go_wp2
  go_ret
  exact ⟨rfl, HB.out⟩
end Go.Proofs.YtefhpjipcdmbaabGreatDoor
