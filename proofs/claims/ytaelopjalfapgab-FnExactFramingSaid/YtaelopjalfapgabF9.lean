/-
  Chapter 5: the values of a name as one text, and its words. Both sides.
-/
import Derived.Test.YtaelopjalfapgabF4
import Derived.Test.YtaelopjalfapgabFT
import Derived.Test.YtaelopjalfapgabSJ
import Derived.Test.YtaelopjalfapgabWE2
import Derived.Test.YtaelopjalfapgabWE3
namespace Go.Proofs.Ytaelopjalfapgab
set_option linter.unusedVariables false
set_option linter.unusedSimpArgs false
open Go.RowKit
theorem joinL_lib : ∀ l : List ByteArray, Lib.join (l.map (·.data.toList)) [44, 32] = joinL l
  | [] => rfl
  | [a] => by simp [Lib.join, joinL, List.intercalate, List.intersperse]
  | a :: b :: r => by
    have ih := joinL_lib (b :: r)
    rw [joinL_two, ← ih]
    simp [Lib.join, List.intercalate, List.intersperse]
theorem joinB_len {l : List Fd} {n : ByteArray} : (joinL (valuesL l n)).length ≤ 3840 := by
  have h1 := joinL_len (valuesL l n) 190 (fun v hv => valuesL_size hv)
  have h2 := valuesL_len l n
  have h3 : (valuesL l n).length * (190 + 2) ≤ 20 * 192 := Nat.mul_le_mul h2 (by omega)
  omega
theorem joinB_size {l : List Fd} {n : ByteArray} : (joinB (valuesL l n)).size ≤ 3840 := by
  show (joinL (valuesL l n)).toArray.size ≤ _
  simpa using joinB_len
theorem Try.extraJ : Builder.Extra Try.prog Try.lays156_ren := { sizeBuilder := by kernel_rfl, liesBuilder := by kernel_rfl, t5 := Try.underlying5, a5 := Try.isAgg5, z5 := Try.sizeOf5, v5 := Try.zeroValue5, infoByte := by kernel_rfl, cellsByte := by kernel_rfl, sizeByte := by kernel_rfl, neB5 := by decide }
theorem Join_any (w0 w : World) (v : Value) (l : List ByteArray) (hb : BufS w0 w v l) (hl : l.length ≤ 20) (hlen : (joinL l).length ≤ 3840) :
    Calls Try.prog 44 #[v, .string ⟨#[44, 32]⟩] w fun e w' => e = .returned (.string (joinB l)) ∧ Below w.heap.size w w' := by
  rcases hb.own.2 with ⟨h1, h2⟩ | ⟨g, cap, cur, h1, hg, hh, hc, _⟩
  · obtain rfl : l = [] := List.eq_nil_of_length_eq_zero h2
    subst h1
    refine (Any.strings_Join_none Try.lays156 Try.extraJ none 0 ⟨#[44, 32]⟩ w).mono ?_
    rintro e w' ⟨rfl, rfl⟩
    exact ⟨rfl, Below.refl _ _⟩
  · have hlt := (hb.own.lt g (by rw [h1]; rfl)).2
    have hcell : ∀ (j : Nat) x, l[j]? = some x → w.cell? ⟨g, 0 + j, none⟩ = some (.string x) := by
      intro j x hx
      have := hb.own.cells (g := g) (by rw [h1]; rfl) j (.string x) (by simp [hx])
      rwa [Addr.add_lit] at this
    subst h1
    have := Any.strings_Join Try.lays156 Try.extraJ g 0 cap l ⟨#[44, 32]⟩ w hcell hlt (by omega) hc (by
      show (Lib.join (l.map (·.data.toList)) [44, 32]).length ≤ _
      rw [joinL_lib]; omega)
    refine this.mono ?_
    rintro e w' ⟨rfl, hb'⟩
    refine ⟨?_, hb'⟩
    show Ending.returned (.string ⟨(Lib.join (l.map (·.data.toList)) [44, 32]).toArray⟩) = _
    rw [joinL_lib]; rfl
set_option maxHeartbeats 1000000 in
theorem Joined_any (v : Value) (l : List Fd) (n : ByteArray) (w : World) (hv : SlF w v l) (hl : l.length ≤ 1048576) (ht : totF l ≤ 1099511627776) (hn : n.size ≤ maxLen) :
    Calls Try.prog 33 #[v, .string n] w fun e w' => e = .returned (.string (joinB (valuesL l n))) ∧ Below w.heap.size w w' := by
  have HV := hideB2 (Values_any v l n w hv hl ht hn)
  have HJ := hideB2 (fun w1 v1 (h : BufS w w1 v1 (valuesL l n)) => Join_any w w1 v1 _ h (valuesL_len l n) joinB_len)
  generalize valuesL l n = L at *
  generalize joinB L = R at *
  obtain ⟨a, c0, rfl⟩ := hv.form
  go_enter Try.func33, Try.ntmps33
  go_wp2_with fail
  refine HV.out.mono ?_
  rintro e w1 ⟨v1, rfl, hb1⟩
  go_wp2_with fail
  refine (HJ.out w1 v1 hb1).mono ?_
  rintro e w2 ⟨rfl, hb2⟩
  have HB := hideB2 (below_then hb1.below hb2)
  clear hb1 hb2
  go_wp2
  go_ret
  exact ⟨rfl, HB.out⟩
theorem joinB_next (l : List ByteArray) (k : Nat) (h : k < l.length) (h0 : 0 < k) : joinB (l.take k) ++ ⟨#[44, 32]⟩ ++ txAt l k = joinB (l.take (k + 1)) := by
  apply bytes_ext
  rw [List.take_succ_eq_append_getElem h]
  show _ = joinL (l.take k ++ [l[k]])
  rw [joinL_snoc _ _ (by intro hh; have := congrArg List.length hh; rw [List.length_take, List.length_nil] at this; omega), txAt_get h]
  simp [Go.Joins.data_append, joinB]
theorem joinB_first (l : List ByteArray) (h : 0 < l.length) : (⟨#[]⟩ : ByteArray) ++ txAt l 0 = joinB (l.take 1) := by
  apply bytes_ext
  rw [List.take_succ_eq_append_getElem h, txAt_get h]
  simp [Go.Joins.data_append, joinB, joinL]
theorem joinL_take (l : List ByteArray) (m k : Nat) (h : ∀ v ∈ l, v.size ≤ m) : (joinL (l.take k)).length ≤ l.length * (m + 2) := by
  have h1 := joinL_len (l.take k) m (fun v hv => h v (List.mem_of_mem_take hv))
  rw [List.length_take] at h1
  exact Nat.le_trans h1 (Nat.mul_le_mul_right _ (by omega))
set_option maxHeartbeats 2000000 in
theorem sJoined_any (v : Value) (l : List Fd) (n : ByteArray) (w : World) (hv : SlF w v l) (hl : l.length ≤ 1048576) (ht : totF l ≤ 1099511627776) (hn : n.size ≤ maxLen) :
    Calls Try.prog 25 #[v, .string n] w fun e w' => e = .returned (.string (joinB (valuesL l n))) ∧ Below w.heap.size w w' := by
  have HV := hideB2 (sValues_any v l n w hv hl ht hn)
  have hm := valuesL_len l n
  have HSZ := hideB2 (fun v (h : v ∈ valuesL l n) => valuesL_size h)
  generalize valuesL l n = L at *
  obtain ⟨a, c0, rfl⟩ := hv.form
  go_enter Try.func25, Try.ntmps25
  go_wp2_with fail
  refine HV.out.mono ?_
  rintro e w1 ⟨v1, rfl, hb1⟩
  have HB := hideB2 hb1.below
  obtain ⟨hs1, _, _⟩ := hb1.ans
  obtain ⟨a1, c1, rfl⟩ := hs1.form
  have HS := hideB2 hs1
  clear hb1 hs1 HV
  generalize hq : L.length = q at *
  have HQ := hideB2 hq
  clear hq
  go_wp2
  go_loop [6, 7] (fun o i => ∃ k : Nat, k ≤ q ∧ i = .int .i64 k ∧ o = .string (joinB (L.take k))) (fun _ i => q - (intOf i).toNat)
  case atStart => exact ⟨0, Nat.zero_le _, rfl, rfl⟩
  case round =>
    obtain ⟨k, hk, rfl, rfl⟩ := hrel
    by_cases hlt : k < q
    · have hklt : k < L.length := by rw [HQ.out]; exact hlt
      obtain ⟨b, rfl, hr⟩ := HS.out.row (by omega)
      have p0 := hr.cell k hklt
      have hsz : (txAt L k).size ≤ 190 := HSZ.out _ (by rw [txAt_get hklt]; exact List.getElem_mem hklt)
      have hsj : (joinB (L.take k)).size ≤ 3840 := by
        have h1 := joinL_take L 190 k HSZ.out
        rw [HQ.out] at h1
        have h3 : q * (190 + 2) ≤ 20 * 192 := Nat.mul_le_mul hm (by omega)
        show (joinL (L.take k)).toArray.size ≤ _
        simp; omega
      by_cases h0 : 0 < k
      · have HNX := hideB2 (joinB_next L k hklt h0)
        have h0' : (0 : Int) < (k : Int) := by omega
        clear hr hklt
        generalize txAt L k = x at *
        generalize joinB (L.take k) = y at *
        go_wp2
        go_round
        case rel => exact ⟨k + 1, by omega, by go_num, by rw [← HNX.out]⟩
        case measure => simp [intOf]; omega
      · obtain rfl : k = 0 := by omega
        have HNX := hideB2 (joinB_first L (by omega))
        have he : joinB (L.take 0) = ⟨#[]⟩ := rfl
        rw [he]
        rw [he] at hsj
        clear hr hklt he
        generalize txAt L 0 = x at *
        go_wp2
        go_round
        case rel => exact ⟨1, by omega, by go_num, by rw [← HNX.out]⟩
        case measure => simp [intOf]; omega
    · obtain rfl : k = q := by omega
      have HE := hideB2 (show L.take k = L from List.take_of_length_le (by rw [HQ.out]; exact Nat.le_refl _))
      rw [HE.out]
      clear HE
      go_wp2
      go_ret
      exact ⟨rfl, HB.out⟩
set_option maxHeartbeats 1000000 in
theorem Words_any (v : Value) (l : List Fd) (n : ByteArray) (w : World) (hv : SlF w v l) (hl : l.length ≤ 1048576) (ht : totF l ≤ 1099511627776) (hn : n.size ≤ maxLen) :
    Calls Try.prog 19 #[v, .string n] w fun e w' => ∃ v', e = .returned v' ∧ BufS w w' v' (elsB (joinB (valuesL l n))) := by
  have HV := hideB2 (Joined_any v l n w hv hl ht hn)
  have HE := hideB2 (fun W => Elements_any (joinB (valuesL l n)) W (by have := joinB_size (l := l) (n := n); unfold maxLen; omega))
  generalize joinB (valuesL l n) = R at *
  obtain ⟨a, c0, rfl⟩ := hv.form
  go_enter Try.func19, Try.ntmps19
  go_wp2_with fail
  refine HV.out.mono ?_
  rintro e w1 ⟨rfl, hb1⟩
  go_wp2_with fail
  refine (HE.out _).mono ?_
  rintro e w2 ⟨v2, rfl, hb2⟩
  have HB := hideB2 (hb2.base hb1)
  clear hb1 hb2
  go_wp2
  go_ret
  exact ⟨_, rfl, HB.out⟩
set_option maxHeartbeats 1000000 in
theorem sWords_any (v : Value) (l : List Fd) (n : ByteArray) (w : World) (hv : SlF w v l) (hl : l.length ≤ 1048576) (ht : totF l ≤ 1099511627776) (hn : n.size ≤ maxLen) :
    Calls Try.prog 12 #[v, .string n] w fun e w' => ∃ v', e = .returned v' ∧ BufS w w' v' (elsB (joinB (valuesL l n))) := by
  have HV := hideB2 (sJoined_any v l n w hv hl ht hn)
  have HE := hideB2 (fun W => sElements_any (joinB (valuesL l n)) W (by have := joinB_size (l := l) (n := n); unfold maxLen; omega))
  generalize joinB (valuesL l n) = R at *
  obtain ⟨a, c0, rfl⟩ := hv.form
  go_enter Try.func12, Try.ntmps12
  go_wp2_with fail
  refine HV.out.mono ?_
  rintro e w1 ⟨rfl, hb1⟩
  go_wp2_with fail
  refine (HE.out _).mono ?_
  rintro e w2 ⟨v2, rfl, hb2⟩
  have HB := hideB2 (hb2.base hb1)
  clear hb1 hb2
  go_wp2
  go_ret
  exact ⟨_, rfl, HB.out⟩
end Go.Proofs.Ytaelopjalfapgab
