/-
  The walks over chapter 3: ShaEnd, Sha1 (spec).
-/
import Derived.Test.YtknpolmenfdheaaD15
namespace Go.Proofs.Ytknpolmenfdheaa
set_option linter.unusedVariables false
set_option linter.unusedSimpArgs false
open Go.RowKit
/-- What has been put behind a text, z zeros and i bytes of the length so far. -/
def padL (z n i : Nat) : List UInt8 := 128 :: (List.replicate z 0 ++ (be8 n).take i)
theorem padL_len (z n i : Nat) (hi : i ≤ 8) : (padL z n i).length = 1 + z + i := by
  have : (be8 n).length = 8 := by simp [be8]
  simp [padL, this]; omega
theorem padL_zero (z n : Nat) : padL z n 0 = 128 :: List.replicate z 0 := by simp [padL]
theorem padZ_succ (z : Nat) : (128 : UInt8) :: List.replicate (z + 1) 0 = (128 :: List.replicate z 0) ++ [0] := by rw [List.cons_append, ← List.replicate_succ']
theorem padL_succ (z n i : Nat) (hi : i < 8) : padL z n (i + 1) = padL z n i ++ [UInt8.ofNat (n / 256 ^ (7 - i))] := by
  unfold padL
  have hl : i < (be8 n).length := by simp [be8]; exact hi
  rw [List.take_succ_eq_append_getElem hl, List.cons_append, List.append_assoc]
  congr 3
  simp [be8]
theorem padL_all (size : Nat) : padL (nZero size) (8 * size) 8 = endL size := by
  unfold padL endL
  rw [List.take_of_length_le (by simp [be8])]
theorem nZero_rest {size r z : Nat} (hr : r = size % 64) (h : z ≤ nZero size) : (r + (1 + z)) % 64 = 56 ↔ z = nZero size := by unfold nZero at *; omega
theorem len_val (n k : Nat) (hk : k ≤ 7) : ((n : Int) / 2 ^ (8 * k)) % 256 = ((UInt8.ofNat (n / 256 ^ k)).toNat : Int) := by
  rw [pow_256]
  simp
theorem word_val (x : Nat) (hx : x < 4294967296) : (x : Int) / 16777216 = ((UInt8.ofNat (x / 16777216)).toNat : Int) ∧ ((x : Int) / 65536) % 256 = ((UInt8.ofNat (x / 65536)).toNat : Int) ∧ ((x : Int) / 256) % 256 = ((UInt8.ofNat (x / 256)).toNat : Int) ∧ (x : Int) % 256 = ((UInt8.ofNat x).toNat : Int) := by
  refine ⟨?_, ?_, ?_, ?_⟩
  · simp; omega
  all_goals simp
theorem digL_four (h : List Nat) (i : Nat) (hi : i < 5) : (digL h).take (4 * (i + 1)) = (digL h).take (4 * i) ++ [UInt8.ofNat (h.getD i 0 / 16777216), UInt8.ofNat (h.getD i 0 / 65536), UInt8.ofNat (h.getD i 0 / 256), UInt8.ofNat (h.getD i 0)] := by
  have h5 : i = 0 ∨ i = 1 ∨ i = 2 ∨ i = 3 ∨ i = 4 := by omega
  rcases h5 with rfl | rfl | rfl | rfl | rfl <;> rfl
set_option maxHeartbeats 2000000 in
theorem sShaEnd_no (c n cap : Nat) (xs : List Int) (r : ByteArray) (size : Int) (w : World) (hr : RowZ w c xs) (hn : xs.length = n) (hm : n ≤ maxLen) (hs : r.size ≤ maxLen) (h : shaQ xs r.size size = false) :
    Calls Try.prog 29 #[shaV c n cap r size] w fun e w' => e = .returned (.string ⟨#[]⟩) ∧ Below w.heap.size w w' := by
  unfold shaV
  go_enter Try.func29, Try.ntmps29
  go_wp2_with fail
  refine (sShaOk_any c n cap xs r size _ (hr.keep (below_a1 _ _)) hn hm hs).mono ?_
  rintro e w1 ⟨rfl, hb1⟩
  have HB := hideB2 (below_then (below_a1 w _) hb1)
  clear hb1 hr hn
  go_wp2
  go_ret
  exact ⟨rfl, HB.out⟩
set_option maxHeartbeats 4000000 in
theorem sShaEnd_any (c cap : Nat) (h : List Nat) (r : ByteArray) (size : Nat) (w : World) (hr : RowN w c h) (hh : Five h) (hsz : r.size = size % 64) (hb : size ≤ 999999999999999) :
    Calls Try.prog 29 #[shaV c 5 cap r (size : Int)] w fun e w' => e = .returned (.string ⟨(endS h r.data.toList size).toArray⟩) ∧ Below w.heap.size w w' := by
  have hQ : shaQ (nz h) r.size (size : Int) = true := shaQ_iff.2 ⟨fiveZ_of hh, ⟨by omega, by omega⟩, by omega⟩
  have hr64 : r.size < 64 := by omega
  have hnz := nZero_le size
  have HSZ := hideB2 hsz
  clear hsz
  unfold shaV
  go_enter Try.func29, Try.ntmps29
  go_wp2_with fail
  refine (sShaOk_any c 5 cap (nz h) r size _ (hr.z.keep (below_a1 _ _)) (by rw [nz_len]; exact hh.1) (by unfold maxLen; omega) (by unfold maxLen; omega)).mono ?_
  rintro e w1 ⟨rfl, hb1⟩
  have K0 := hideB2 ((Blk.new w #[.slice (some ⟨c, 0, none⟩) 5 cap, .string r, .int .i64 (size : Int)] 27).later hb1)
  have HBW := hideB2 (below_then (below_a1 w _) hb1)
  have HR1 := hideB2 (hr.keep (below_then (below_a1 w _) hb1))
  have B0 := hideB2 (Buf.one w1 128 128 rfl)
  clear hb1 hr
  go_wp2
  go_loopw [3] (fun pv wr => ∃ z : Nat, z ≤ nZero size ∧ Buf w1 wr pv (128 :: List.replicate z 0)) (fun pv _ => 64 - (match pv with | .slice _ n _ => n | _ => 0))
  case atStart => exact ⟨0, Nat.zero_le _, B0.out⟩
  case round =>
    obtain ⟨z, hz, hbuf⟩ := hrel
    clear B0
    obtain ⟨pa, pc, rfl⟩ := hbuf.form
    have hq := nZero_rest (z := z) HSZ.out hz
    have s1 : wr.cell? ⟨w.heap.size, 1, none⟩ = some (.string r) := (K0.out.later hbuf.below).cell 1
    have hl : ((128 : UInt8) :: List.replicate z 0).length = 1 + z := by simp; omega
    by_cases he : z = nZero size
    · have hne : (((r.size : Int) + (1 + (z : Int))) % 64 != 56) = false := by
        rw [bne_eq_false_iff_eq]
        have := hq.2 he
        omega
      have s2 : wr.cell? ⟨w.heap.size, 2, none⟩ = some (.int .i64 (size : Int)) := (K0.out.later hbuf.below).cell 2
      have HPA := hideB2 (padL_all size)
      have HEL := hideB2 (endL_len size)
      rw [← he] at HPA HEL
      have hz63 : z ≤ 63 := by omega
      rw [hl] at hbuf ⊢
      have HBF : Hid (Buf w1 wr (.slice pa (1 + z) pc) (padL z (8 * size) 0)) := by rw [padL_zero]; exact hbuf
      clear hq hbuf hl he hnz hz
      go_wp2
      clear s1 s2 hne
      obtain ⟨wo, rfl⟩ : ∃ wo : World, wo = wr := ⟨_, rfl⟩
      go_loopw [3, 5] (fun pv kv wr => ∃ i : Nat, i ≤ 8 ∧ kv = .int .i64 (7 - (i : Int)) ∧ Buf w1 wr pv (padL z (8 * size) i)) (fun _ kv _ => (intOf kv + 1).toNat)
      case atStart => exact ⟨0, by omega, rfl, HBF.out⟩
      case round =>
        obtain ⟨i, hi, rfl, hbuf⟩ := hrel
        clear HBF
        obtain ⟨pa, pc, rfl⟩ := hbuf.form
        have hpl := padL_len z (8 * size) i hi
        by_cases hlt : i < 8
        · obtain ⟨j, hj⟩ : ∃ j : Nat, i + j = 7 := ⟨7 - i, by omega⟩
          have hij : (7 : Int) - (i : Int) = (j : Int) := by omega
          have hj7 : j ≤ 7 := by omega
          have hv := len_val (8 * size) j hj7
          rw [show ((8 * size : Nat) : Int) = 8 * (size : Int) by omega] at hv
          have HS := hideB2 (padL_succ z (8 * size) i hlt)
          rw [show 7 - i = j by omega] at HS
          have HBF := hideB2 hbuf
          have HJ := hideB2 hj
          have HIJ := hideB2 hij
          have HPL := hideB2 hpl
          clear hbuf hpl hj
          generalize UInt8.ofNat (8 * size / 256 ^ j) = y at *
          rw [hij]
          clear hij
          go_wp2_with (at_builtin; refine wp_app rfl (.tmp 33) (.tmp 39) rfl _ _ rfl HBF.out _ y rfl rfl (by rw [HPL.out]; omega) ?_; intro v2 W2 hbuf2)
          exact ⟨⟨i + 1, by omega, congrArg (Value.int .i64) (by have := HIJ.out; omega), by rw [HS.out]; exact hbuf2⟩, by simp [intOf]⟩
        · obtain rfl : i = 8 := by omega
          rw [HPA.out] at hbuf hpl ⊢
          have kb := hbuf.text
          have K2 := K0.out.later hbuf.below
          have s1 : wr.cell? ⟨w.heap.size, 1, none⟩ = some (.string r) := K2.cell 1
          have s0 : wr.cell? ⟨w.heap.size, 0, none⟩ = some (.slice (some ⟨c, 0, none⟩) 5 cap) := K2.cell 0
          have s0' := grewCell s0 (.cells #[] 3)
          have HR2 := hideB2 (HR1.out.keep hbuf.below)
          have HT := hideB2 (show (r ++ (⟨(endL size).toArray⟩ : ByteArray)).data.toList = r.data.toList ++ endL size by rw [ByteArray.data_append, Array.toList_append])
          have HTS := hideB2 (show (r ++ (⟨(endL size).toArray⟩ : ByteArray)).size = r.size + (z + 9) by rw [ByteArray.size_append]; show r.size + (endL size).toArray.size = _; rw [List.size_toArray, HEL.out])
          have h64 : (r ++ (⟨(endL size).toArray⟩ : ByteArray)).size % 64 = 0 := by
            rw [HTS.out]
            have h1 := HSZ.out
            have h2 := HEL.out
            rw [endL_len] at h2
            have h3 := (nZero_is (size := size) (Nat.le_refl _)).2 rfl
            omega
          have hts : (r ++ (⟨(endL size).toArray⟩ : ByteArray)).size ≤ 200 := by rw [HTS.out]; omega
          have HB2 := hideB2 hbuf.below
          have HLE2 := hideB2 hbuf.below.size
          clear hbuf K2 hi hlt hpl
          have hsum : (endL size).length ≤ 100 := by rw [HEL.out]; omega
          have hneg : ¬ (0 : Int) ≤ 7 - ((8 : Nat) : Int) := by omega
          go_wp2_with (refine wp_appH rfl _ _ rfl c cap h hh.1 rfl rfl HR2.out ?_; intro w3 b3 cp3 hle3 hr3 hb3)
          clear kb s0 s0' s1 hneg hsum
          generalize r ++ (⟨(endL size).toArray⟩ : ByteArray) = T at *
          have HR3 := hideB2 hr3
          have BW := hideB2 (below_then (below_then HBW.out HB2.out) hb3)
          clear hr3 hb3 hle3 HR2 HB2 HLE2
          go_loopw [7, 8] (fun hv av wr => ∃ (m k g cp : Nat), m = 64 * k ∧ m ≤ T.size ∧ av = .int .i64 (m : Int) ∧ hv = .slice (some ⟨g, 0, none⟩) 5 cp ∧ RowN wr g (absH h T.data.toList k) ∧ Below w3.heap.size w3 wr) (fun _ av _ => T.size - (intOf av).toNat)
          case atStart => exact ⟨0, 0, b3, cp3, rfl, Nat.zero_le _, rfl, rfl, HR3.out, Below.refl _ _⟩
          case round =>
            obtain ⟨m, k, g, cp, hm, hml, rfl, rfl, hrow, hbel⟩ := hrel
            clear HR3
            have HM := hideB2 hm
            clear hm
            by_cases hlt : m < T.size
            · have hm64 : m + 64 ≤ T.size := by have := HM.out; omega
              obtain ⟨hx1, hx2⟩ := blockAt (T := T) (k := k) (by have := HM.out; omega)
              rw [← HM.out] at hx1 hx2
              have hf := absH_five hh T.data.toList k
              have HST := hideB2 (show absH h T.data.toList (k + 1) = comp (absH h T.data.toList k) ((T.data.toList.drop (64 * k)).take 64) from rfl)
              rw [← HM.out, ← hx2] at HST
              have HX := hideB2 hx1
              have HR := hideB2 hrow
              have HB := hideB2 hbel
              clear hx1 hx2 hrow hbel h64
              go_wp2_with fail
              refine (sCompress_any g cp _ _ _ HR.out hf HX.out).mono ?_
              rintro e w5 ⟨g5, rfl, hle5, hr5, hb5⟩
              have HR5 := hideB2 hr5
              have HB5 := hideB2 (HB.out.trans (hb5.mono HB.out.size))
              clear hr5 hb5 hle5
              go_wp2
              exact ⟨⟨m + 64, k + 1, g5, 5, by have := HM.out; omega, hm64, by go_num, rfl, by rw [HST.out]; exact HR5.out, HB5.out⟩, by simp [intOf]; omega⟩
            · have hk : k = T.data.toList.length / 64 := by rw [len_data]; have := HM.out; omega
              have HI : Hid (absH h T.data.toList k = inH h (r.data.toList ++ endL size)) := by show _ = _; rw [← HT.out, hk]; rfl
              rw [HI.out] at hrow
              have HFIN : Hid (endS h r.data.toList size = digL (inH h (r.data.toList ++ endL size))) := rfl
              have hf5 := inH_five hh (r.data.toList ++ endL size)
              generalize inH h (r.data.toList ++ endL size) = h5 at *
              have HR := hideB2 hrow
              have HB := hideB2 (BW.out.trans (hbel.mono BW.out.size))
              have HF5 := hideB2 hf5
              clear hrow hbel hk HI h64 hf5
              go_wp2
              obtain ⟨w6, rfl⟩ : ∃ w6 : World, w6 = wr := ⟨_, rfl⟩
              go_loopw [9, 10] (fun ov iv wr => ∃ i : Nat, i ≤ 5 ∧ iv = .int .i64 (i : Int) ∧ Buf w6 wr ov ((digL h5).take (4 * i))) (fun _ iv _ => 5 - (intOf iv).toNat)
              case atStart => exact ⟨0, by omega, rfl, Buf.start w6⟩
              case round =>
                obtain ⟨i, hi, rfl, hbuf⟩ := hrel
                obtain ⟨pa2, pc2, rfl⟩ := hbuf.form
                have hbl : ((digL h5).take (4 * i)).length ≤ 20 := by rw [List.length_take, digL_len]; omega
                by_cases hlt5 : i < 5
                · have hcell := (HR.out.keep hbuf.below).cell i (by rw [HF5.out.1]; exact hlt5)
                  have hx := getD_lt (B := 4294967296) (by decide) HF5.out.2 i
                  have hd4 := hideB2 (digL_four h5 i hlt5)
                  obtain ⟨v0, v1, v2, v3⟩ := word_val (h5.getD i 0) hx
                  have HBF := hideB2 hbuf
                  have HBL := hideB2 hbl
                  clear hbuf hbl
                  generalize h5.getD i 0 = x at *
                  generalize UInt8.ofNat (x / 16777216) = q0 at *
                  generalize UInt8.ofNat (x / 65536) = q1 at *
                  generalize UInt8.ofNat (x / 256) = q2 at *
                  generalize UInt8.ofNat x = q3 at *
                  generalize (digL h5).take (4 * i) = D at *
                  go_wp2
                  refine wp_region_lead_draws 23 (.slice pa2 D.length pc2) ?_ ?_ (fun _ _ _ h => h) (Or.inl ⟨rfl, fun _ => rfl⟩) ?_
                  · kernel_rfl
                  · kernel_rfl
                  simp only [List.take_succ_cons, List.take_zero, List.drop_succ_cons, List.drop_zero]
                  go_simp
                  repeat (go_big_quiet_step (fail))
                  refine wpQuiet_nil ?_
                  intro nq
                  go_wp2_with (at_builtin; refine wp_app4 rfl (.tmp 67) (.tmp 91) rfl _ _ rfl (HBF.out.drewN nq) q0 q1 q2 q3 rfl (by have := HBL.out; omega) ?_; intro v5 W5 hbuf5)
                  exact ⟨⟨i + 1, by omega, by go_num, by rw [hd4.out]; exact hbuf5⟩, by simp [intOf]; omega⟩
                · obtain rfl : i = 5 := by omega
                  rw [List.take_of_length_le (by rw [digL_len]; omega)] at hbuf ⊢
                  have kb := hbuf.text
                  go_wp2
                  go_ret
                  exact ⟨ret_str (by rw [HFIN.out]), HB.out.trans (hbuf.below.mono HB.out.size)⟩
    · have hne : (((r.size : Int) + (1 + (z : Int))) % 64 != 56) = true := by
        rw [bne_iff_ne]
        intro h0
        exact he (hq.1 (by omega))
      rw [hl]
      have HBF := hideB2 hbuf
      rw [hl] at HBF
      clear hq hbuf hl
      go_wp2_with (at_builtin; refine wp_app rfl (.tmp 23) (.tmp 24) rfl _ _ rfl HBF.out _ 0 rfl rfl (by simp; omega) ?_; intro v2 W2 hbuf2)
      obtain ⟨pa2, pc2, rfl⟩ := hbuf2.form
      exact ⟨⟨z + 1, by omega, by rw [padZ_succ]; exact hbuf2⟩, by simp; omega⟩
set_option maxHeartbeats 1000000 in
theorem sSha1_any (s : ByteArray) (w : World) (hs : s.size ≤ 999999999999999) :
    Calls Try.prog 11 #[.string s] w fun e w' => e = .returned (.string (sha1B s)) ∧ Below w.heap.size w w' := by
  go_enter Try.func11, Try.ntmps11
  go_wp2_with fail
  refine (sShaNew_any _).mono ?_
  rintro e w1 ⟨b1, rfl, hle1, hr1, hb1⟩
  go_wp2_with fail
  have hA := sShaAdd_any b1 5 h0L ⟨#[]⟩ s 0 w1 hr1 h0_five rfl (by omega)
  rw [show ((0 : Nat) : Int) = 0 from rfl, show (⟨#[]⟩ : ByteArray).data.toList ++ s.data.toList = s.data.toList from rfl, Nat.zero_add] at hA
  refine hA.mono ?_
  rintro e w2 ⟨b2, c2, rfl, hle2, hr2, hb2⟩
  clear hA
  go_wp2_with fail
  refine (sShaEnd_any b2 c2 (inH h0L s.data.toList) ⟨(inR s.data.toList).toArray⟩ s.size _ hr2 (inH_five h0_five _) (by show (inR s.data.toList).toArray.size = _; rw [List.size_toArray, inR_len, len_data]) (by omega)).mono ?_
  rintro e w3 ⟨rfl, hb3⟩
  go_wp2
  go_ret
  refine ⟨ret_str ?_, below_then (below_then hb1 hb2) hb3⟩
  unfold sha1B sha1L
  rw [len_data]
end Go.Proofs.Ytknpolmenfdheaa
