/-
  Chapter 7: the form of the index; both sides.
-/
import Derived.Test.YtefhpjipcdmbaabGreatDoorU9
namespace Go.Proofs.YtefhpjipcdmbaabGreatDoor
set_option linter.unusedVariables false
set_option linter.unusedSimpArgs false
open Go.RowKit
def surtB (ho pa qu : ByteArray) (po : Int) (hq : Bool) : ByteArray := if urlQ ho pa qu po hq = true then ((((turnB ho 46 44 ++ portB po) ++ (⟨#[41]⟩ : ByteArray)) ++ pa) ++ qryB qu hq) else ⟨#[]⟩
theorem size_nil {x : ByteArray} (h : x.size = 0) : x = ⟨#[]⟩ := by
  apply bytes_ext
  exact List.eq_nil_of_length_eq_zero (by rw [len_data]; exact h)
theorem turnS_ok (h : ByteArray) (d : UInt8) (hq : hostQ h = true) : turnS h 46 d = turnB h 46 d := by
  unfold turnS turnB
  have hp : (splS 46 h).any (fun x => eqB x ⟨#[]⟩) = false := by
    unfold hostQ at hq
    rw [Bool.and_eq_true] at hq
    simpa using hq.2
  cases hr : (splS 46 h).reverse with
  | nil => rfl
  | cons x r =>
    refine trnF_join d x r ?_
    intro h0
    rw [List.any_eq_false] at hp
    have hm : x ∈ splS 46 h := by
      have : x ∈ (splS 46 h).reverse := by rw [hr]; exact List.mem_cons_self
      exact List.mem_reverse.1 this
    exact hp x hm (by rw [size_nil h0]; exact eqB_self _)
set_option maxRecDepth 100000 in
set_option maxHeartbeats 4000000 in
theorem Surt_any (ho pa qu : ByteArray) (po : Int) (hq : Bool) (w : World) (htab : Tab10 w) (hho : ho.size ≤ 1048576) (hpa : pa.size ≤ 1048576) (hqu : qu.size ≤ 1048576) :
    Calls Tryz.prog 24 #[.agg #[.string ho, .int .i64 po, .string pa, .string qu, .bool hq]] w fun e w' => e = .returned (.string (surtB ho pa qu po hq)) ∧ Below w.heap.size w w' := by
  have HB := hideB2 (below_a1 w (.cells #[.string ho, .int .i64 po, .string pa, .string qu, .bool hq] 23))
  have A1 := hideB2 (Blk.new w #[.string ho, .int .i64 po, .string pa, .string qu, .bool hq] 23)
  have HT := hideB2 (tab_later htab HB.out)
  have HU := hideB2 (fun W h => UrlOk_any ho pa qu po hq W h hho hpa hqu)
  have HTU := hideB2 (fun W => turnedHost_any ho 46 44 W hho)
  have HP := hideB2 (fun W h => portText_any ho pa qu po hq W h )
  have HQ := hideB2 (fun W => queryText_any ho pa qu po hq W hqu)
  have hz1 := portB_size po
  have hz2 := qryB_size qu hq
  clear htab
  cases hh : urlQ ho pa qu po hq
  · have HE := hideB2 (show surtB ho pa qu po hq = ⟨#[]⟩ by unfold surtB; rw [hh]; rfl)
    rw [hh] at HU
    clear hh
    go_enter Tryz.func24, Tryz.ntmps24
    go_wp2_with (go_at_call 35; refine (HU.out _ HT.out).mono ?_; rintro e w1 ⟨rfl, hb1⟩)
    go_ret
    exact ⟨ret_str HE.out, below_then HB.out hb1⟩
  · have HE := hideB2 (show surtB ho pa qu po hq = ((((turnB ho 46 44 ++ portB po) ++ (⟨#[41]⟩ : ByteArray)) ++ pa) ++ qryB qu hq) by unfold surtB; rw [hh]; rfl)
    rw [hh] at HU
    have hz3 := turnB_size ho 46 44
    generalize surtB ho pa qu po hq = R at *
    generalize turnB ho 46 44 = T at *
    generalize portB po = P at *
    generalize qryB qu hq = Q at *
    have hs0 : (⟨#[41]⟩ : ByteArray).size = 1 := rfl
    have hs1 : (T ++ P).size ≤ 2097200 := by rw [ByteArray.size_append]; omega
    have hs2 : ((T ++ P) ++ (⟨#[41]⟩ : ByteArray)).size ≤ 2097201 := by rw [ByteArray.size_append]; omega
    have hs3 : (((T ++ P) ++ (⟨#[41]⟩ : ByteArray)) ++ pa).size ≤ 3145800 := by rw [ByteArray.size_append]; omega
    clear hh
    go_enter Tryz.func24, Tryz.ntmps24
    go_wp2_with fail
    refine (HU.out _ HT.out).mono ?_
    rintro e w1 ⟨rfl, hb1⟩
    have HB1 := hideB2 (below_then HB.out hb1)
    have HT1 := hideB2 (tab_later HT.out hb1)
    obtain ⟨p0, p1, p2, p3, p4⟩ := (A1.out.later hb1).u5
    clear hb1 HB A1
    have z0 := fun V => grw_some p0 V
    have z1 := fun V => grw_some p1 V
    have z2 := fun V => grw_some p2 V
    have z3 := fun V => grw_some p3 V
    have z4 := fun V => grw_some p4 V
    have HTV := hideB2 (fun V : Gr w1 => tab_later HT1.out (grw_below w1 V))
    clear p0 p1 p2 p3 p4
    go_wp2
    refine wp_region_grow ?_ ?_ ?_
    · kernel_rfl
    · kernel_rfl
    · intro hne0
      repeat (go_big_quiet_step ((first | (go_at_call 39; exact grow_call (HTU.out _)) | (go_at_call 58; exact grow_call (HP.out _ (HTV.out _))) | (go_at_call 59; exact grow_call (HQ.out _)))))
      refine wpQuiet_nil ?_
      rintro _ ⟨V, rfl⟩
      have HBV := hideB2 (below_then HB1.out (grw_below w1 V))
      generalize grw w1 V = w3 at *
      go_wp2
      go_ret
      exact ⟨ret_str HE.out, HBV.out⟩
set_option maxRecDepth 100000 in
set_option maxHeartbeats 4000000 in
theorem sSurt_any (ho pa qu : ByteArray) (po : Int) (hq : Bool) (w : World) (hho : ho.size ≤ 1048576) (hpa : pa.size ≤ 1048576) (hqu : qu.size ≤ 1048576) :
    Calls Tryz.prog 37 #[.agg #[.string ho, .int .i64 po, .string pa, .string qu, .bool hq]] w fun e w' => e = .returned (.string (surtB ho pa qu po hq)) ∧ Below w.heap.size w w' := by
  have HB := hideB2 (below_a1 w (.cells #[.string ho, .int .i64 po, .string pa, .string qu, .bool hq] 23))
  have A1 := hideB2 (Blk.new w #[.string ho, .int .i64 po, .string pa, .string qu, .bool hq] 23)
  have HU := hideB2 (fun W => sUrlOk_any ho pa qu po hq W hho hpa hqu)
  have HTU := hideB2 (fun W => l7turned_any ho 46 44 W hho)
  have HP := hideB2 (fun W => l7port_any ho pa qu po hq W )
  have HQ := hideB2 (fun W => l7query_any ho pa qu po hq W hqu)
  have hz1 := portB_size po
  have hz2 := qryB_size qu hq
  cases hh : urlQ ho pa qu po hq
  · have HE := hideB2 (show surtB ho pa qu po hq = ⟨#[]⟩ by unfold surtB; rw [hh]; rfl)
    rw [hh] at HU
    clear hh
    go_enter Tryz.func37, Tryz.ntmps37
    go_wp2_with (go_at_call 22; refine (HU.out _).mono ?_; rintro e w1 ⟨rfl, hb1⟩)
    go_ret
    exact ⟨ret_str HE.out, below_then HB.out hb1⟩
  · have HE := hideB2 (show surtB ho pa qu po hq = ((((turnB ho 46 44 ++ portB po) ++ (⟨#[41]⟩ : ByteArray)) ++ pa) ++ qryB qu hq) by unfold surtB; rw [hh]; rfl)
    have hte := turnS_ok ho 44 (by have := hh; unfold urlQ at this; simp only [Bool.and_eq_true] at this; exact this.1.1.1.1.1)
    rw [hte] at HTU
    clear hte
    rw [hh] at HU
    have hz3 := turnB_size ho 46 44
    generalize surtB ho pa qu po hq = R at *
    generalize turnB ho 46 44 = T at *
    generalize portB po = P at *
    generalize qryB qu hq = Q at *
    have hs0 : (⟨#[41]⟩ : ByteArray).size = 1 := rfl
    have hs1 : (T ++ P).size ≤ 2097200 := by rw [ByteArray.size_append]; omega
    have hs2 : ((T ++ P) ++ (⟨#[41]⟩ : ByteArray)).size ≤ 2097201 := by rw [ByteArray.size_append]; omega
    have hs3 : (((T ++ P) ++ (⟨#[41]⟩ : ByteArray)) ++ pa).size ≤ 3145800 := by rw [ByteArray.size_append]; omega
    clear hh
    go_enter Tryz.func37, Tryz.ntmps37
    go_wp2_with fail
    refine (HU.out _).mono ?_
    rintro e w1 ⟨rfl, hb1⟩
    have HB1 := hideB2 (below_then HB.out hb1)
    obtain ⟨p0, p1, p2, p3, p4⟩ := (A1.out.later hb1).u5
    clear hb1 HB A1
    have z0 := fun V => grw_some p0 V
    have z1 := fun V => grw_some p1 V
    have z2 := fun V => grw_some p2 V
    have z3 := fun V => grw_some p3 V
    have z4 := fun V => grw_some p4 V
    clear p0 p1 p2 p3 p4
    go_wp2
    refine wp_region_grow ?_ ?_ ?_
    · kernel_rfl
    · kernel_rfl
    · intro hne0
      repeat (go_big_quiet_step ((first | (go_at_call 36; exact grow_call (HTU.out _)) | (go_at_call 70; exact grow_call (HP.out _)) | (go_at_call 71; exact grow_call (HQ.out _)))))
      refine wpQuiet_nil ?_
      rintro _ ⟨V, rfl⟩
      have HBV := hideB2 (below_then HB1.out (grw_below w1 V))
      generalize grw w1 V = w3 at *
      go_wp2
      go_ret
      exact ⟨ret_str HE.out, HBV.out⟩
end Go.Proofs.YtefhpjipcdmbaabGreatDoor
