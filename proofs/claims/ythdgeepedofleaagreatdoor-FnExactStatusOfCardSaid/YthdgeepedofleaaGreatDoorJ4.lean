/-
  The walks over chapter 1: spec.Elements. · Chapter 5: the values of a name as one text, and its words. Both sides. · How many elements a list can have. · How long the elements of a list are. No Go in sight. · Chapter 6: how a body is bounded, on lists. No Go in sight. · Chapter 6: a message as it is read, on lists. No Go in sight. · Plain mathematics of chapter 2: the calendar. No Go in sight. · The walks over chapter 2: small functions of the calendar. · The walks over chapter 2: CivilOk. · The walks over chapter 2: impl's SecondsOf, CivilOf, Weekday. · A text cut at each byte of one kind, on lists. No Go in sight. · Chapter 7: a path in its one form, on lists. No Go in sight. · Digits in tens by the library's table, and how long they are. · Chapter 7: addresses, on lists. No Go in sight. · Contracts of the library's functions at this program, laid off the kit's shelf in plain words. · Contracts of the library's functions at this program, laid off the kit's shelf in plain words. · A text cut at each byte of one kind by the library, and texts joined by one.
-/
import Derived.Test.YthdgeepedofleaaGreatDoorJ3
import Derived.Test.YthdgeepedofleaaGreatDoorJ2
import Derived.Test.YthdgeepedofleaaGreatDoorJ1
import Derived.WalkKit
import Derived.Test.YthdgeepedofleaaGreatDoorProg
import Derived.Test.YthdgeepedofleaaGreatDoorJ0
import Derived.Deep.QuietTactic
import Derived.BigQuiet
import Derived.Lib.IndexLaws
import Derived.Lib.Bytealg
import Derived.Lib.SplitLaws
import Derived.Lib.IndexBytes
import Derived.Lib.Join
import Derived.Lib.SmallJoins
import Derived.Shelf.Strings.SplitCore
import Derived.Shelf.Strings.Search3
import Derived.Shelf.Strings.Split
namespace Go.Proofs.YthdgeepedofleaaGreatDoor
set_option linter.unusedVariables false
set_option linter.unusedSimpArgs false
open Go.RowKit
theorem keepT (s : ByteArray) : ((¬ (0 : Int) < ((trimB s).size : Int)) ∧ keepP s.data.toList = []) ∨ ((0 : Int) < ((trimB s).size : Int) ∧ keepP s.data.toList = [trimB s]) := by
  have e : (trimB s).size = (trimL s.data.toList).length := by show (trimL s.data.toList).toArray.size = _; simp
  by_cases h : trimL s.data.toList = []
  · left; refine ⟨by rw [e, h]; simp, ?_⟩
    unfold keepP; rw [if_pos h]
  · right
    have : 0 < (trimL s.data.toList).length := List.length_pos_iff.2 h
    refine ⟨by rw [e]; omega, ?_⟩
    unfold keepP; rw [if_neg h]; rfl
def qN (q : Bool) : Nat := if q then 1 else 0
set_option maxHeartbeats 4000000 in
theorem sElements_small (s : ByteArray) (w : World) (hs : s.size ≤ 4000) :
    Calls Tryz.prog 205 #[.string s] w fun e w' => ∃ v, e = .returned v ∧ BufS w w' v (elsB s) := by
  have hsm : s.size ≤ maxLen := by unfold maxLen; omega
  have hnb : ¬ (4000 : Int) < (s.size : Int) := by omega
  go_enter Tryz.func205, Tryz.ntmps205
  go_wp2
  go_loopw [3, 4, 5, 6] (fun v f b i wr => ∃ (fr k : Nat) (q : Bool) (P : List (List UInt8)), f = .int .i64 (fr : Int) ∧ b = .bool q ∧ i = .int .i64 (k : Int) ∧ P.length ≤ k ∧ ((k ≤ s.size ∧ ERel s.data.toList (qN q) fr k P ∧ BufS w wr v (cleanP P)) ∨ (k = s.size + 1 ∧ BufS w wr v (elsB s)))) (fun _ _ _ i _ => s.size + 1 - (intOf i).toNat)
  case atStart => exact ⟨0, 0, false, [], rfl, rfl, rfl, Nat.zero_le _, Or.inl ⟨Nat.zero_le _, erel_start _, BufS.start w⟩⟩
  case round =>
    obtain ⟨fr, k, q, P, rfl, rfl, rfl, hPk, hst⟩ := hrel
    rcases hst with ⟨hk, hrel, hbuf⟩ | ⟨hk, hbuf⟩
    · have hfr := hrel.1
      have hcl := cleanP_len P
      have hle : (k : Int) ≤ (s.size : Int) := by omega
      by_cases hend : k = s.size
      · subst hend
        have hfin : Hid (elsB s = cleanP P ++ keepP (s.extract fr s.size).data.toList) := by
          show _ = _
          rw [els_small hs, extract_list]
          have := hrel
          rw [← len_data] at this
          rw [erel_end this, cleanP_snoc, List.take_of_length_le (by rw [len_data]; exact Nat.le_refl _)]
        clear hrel
        rcases keepT (s.extract fr s.size) with ⟨ht, hkp⟩ | ⟨ht, hkp⟩
        · have HK : Hid (keepP (s.extract fr s.size).data.toList = []) := hkp
          clear hkp
          go_wp2_with (first | (go_at_call 203; refine (sTrim_any _ _ (by simp [ByteArray.size_extract]; unfold maxLen; omega)).mono ?_; rintro e w1 ⟨rfl, rfl⟩) | (at_builtin; refine wp_sapp rfl _ _ rfl _ _ rfl hbuf (trimB (s.extract fr s.size)) rfl (by omega) ?_; intro v2 W2 hbuf2))
          go_round
          case rel => exact ⟨s.size + 1, s.size + 1, q, P, by go_num, rfl, by go_num, by omega, Or.inr ⟨rfl, by rw [hfin.out, HK.out, List.append_nil]; exact hbuf⟩⟩
          case measure => simp [intOf] <;> omega
        · have HK : Hid (keepP (s.extract fr s.size).data.toList = [trimB (s.extract fr s.size)]) := hkp
          clear hkp
          go_wp2_with (first | (go_at_call 203; refine (sTrim_any _ _ (by simp [ByteArray.size_extract]; unfold maxLen; omega)).mono ?_; rintro e w1 ⟨rfl, rfl⟩) | (at_builtin; refine wp_sapp rfl _ _ rfl _ _ rfl hbuf (trimB (s.extract fr s.size)) rfl (by omega) ?_; intro v2 W2 hbuf2))
          go_round
          case rel => exact ⟨s.size + 1, s.size + 1, q, P, by go_num, rfl, by go_num, by omega, Or.inr ⟨rfl, by rw [hfin.out, HK.out]; exact hbuf2⟩⟩
          case measure => simp [intOf] <;> omega
      · have hlt : k < s.size := by omega
        have hkL : k < s.data.toList.length := by rw [len_data]; exact hlt
        have hne : ((k : Int) == (s.size : Int)) = false := by rw [beq_eq_false_iff_ne]; omega
        have Hat : Hid (s[k] = s.data.toList.getD k 0) := at8_eq s k hlt
        have Hrel : Hid (ERel s.data.toList (qN q) fr k P) := hrel
        clear hrel hend
        cases q
        · by_cases h44 : (s[k].toNat : Int) = 44
          · have g44 : ((s[k].toNat : Int) == 44) = true := by simpa using h44
            have hrel2 := erel_comma Hrel.out hkL (by rw [← Hat.out]; exact u8eq h44)
            have HR : Hid (ERel s.data.toList 0 (k + 1) (k + 1) (P ++ [(s.extract fr k).data.toList])) := by
              show ERel _ _ _ _ _
              rw [extract_list]; exact hrel2
            clear h44 hrel2
            rcases keepT (s.extract fr k) with ⟨ht, hkp⟩ | ⟨ht, hkp⟩
            · have HK : Hid (keepP (s.extract fr k).data.toList = []) := hkp
              clear hkp
              go_wp2_with (first | (go_at_call 203; refine (sTrim_any _ _ (by simp [ByteArray.size_extract]; unfold maxLen; omega)).mono ?_; rintro e w1 ⟨rfl, rfl⟩) | (at_builtin; refine wp_sapp rfl _ _ rfl _ _ rfl hbuf (trimB (s.extract fr k)) rfl (by omega) ?_; intro v2 W2 hbuf2))
              go_round
              case rel => exact ⟨k + 1, k + 1, false, P ++ [(s.extract fr k).data.toList], by go_num, rfl, by go_num, by simp; omega, Or.inl ⟨by omega, HR.out, by rw [cleanP_snoc, HK.out, List.append_nil]; exact hbuf⟩⟩
              case measure => simp [intOf] <;> omega
            · have HK : Hid (keepP (s.extract fr k).data.toList = [trimB (s.extract fr k)]) := hkp
              clear hkp
              go_wp2_with (first | (go_at_call 203; refine (sTrim_any _ _ (by simp [ByteArray.size_extract]; unfold maxLen; omega)).mono ?_; rintro e w1 ⟨rfl, rfl⟩) | (at_builtin; refine wp_sapp rfl _ _ rfl _ _ rfl hbuf (trimB (s.extract fr k)) rfl (by omega) ?_; intro v2 W2 hbuf2))
              go_round
              case rel => exact ⟨k + 1, k + 1, false, P ++ [(s.extract fr k).data.toList], by go_num, rfl, by go_num, by simp; omega, Or.inl ⟨by omega, HR.out, by rw [cleanP_snoc, HK.out]; exact hbuf2⟩⟩
              case measure => simp [intOf] <;> omega
          · have g44 : ((s[k].toNat : Int) == 44) = false := by simpa using h44
            have hr := erel_out Hrel.out hkL (by rw [← Hat.out]; exact u8ne h44)
            by_cases h34 : (s[k].toNat : Int) = 34
            · have g34 : ((s[k].toNat : Int) == 34) = true := by simpa using h34
              rw [if_pos (by rw [← Hat.out]; exact u8eq h34)] at hr
              have HR : Hid (ERel s.data.toList 1 fr (k + 1) P) := hr
              clear h44 h34 hr
              go_wp2
              go_round
              case rel => exact ⟨fr, k + 1, true, P, by go_num, rfl, by go_num, by omega, Or.inl ⟨by omega, HR.out, hbuf⟩⟩
              case measure => simp [intOf] <;> omega
            · have g34 : ((s[k].toNat : Int) == 34) = false := by simpa using h34
              rw [if_neg (by rw [← Hat.out]; exact u8ne h34)] at hr
              have HR : Hid (ERel s.data.toList 0 fr (k + 1) P) := hr
              clear h44 h34 hr
              go_wp2
              go_round
              case rel => exact ⟨fr, k + 1, false, P, by go_num, rfl, by go_num, by omega, Or.inl ⟨by omega, HR.out, hbuf⟩⟩
              case measure => simp [intOf] <;> omega
        · have hr := erel_in Hrel.out hkL
          by_cases h34 : (s[k].toNat : Int) = 34
          · have g34 : ((s[k].toNat : Int) == 34) = true := by simpa using h34
            rw [if_pos (by rw [← Hat.out]; exact u8eq h34)] at hr
            have HR : Hid (ERel s.data.toList 0 fr (k + 1) P) := hr
            clear h34 hr
            go_wp2
            go_round
            case rel => exact ⟨fr, k + 1, false, P, by go_num, rfl, by go_num, by omega, Or.inl ⟨by omega, HR.out, hbuf⟩⟩
            case measure => simp [intOf] <;> omega
          · have g34 : ((s[k].toNat : Int) == 34) = false := by simpa using h34
            rw [if_neg (by rw [← Hat.out]; exact u8ne h34)] at hr
            by_cases h92 : (s[k].toNat : Int) = 92
            · have g92 : ((s[k].toNat : Int) == 92) = true := by simpa using h92
              rw [if_pos (by rw [← Hat.out]; exact u8eq h92)] at hr
              by_cases hk1 : (k : Int) + 1 < (s.size : Int)
              · have HR : Hid (ERel s.data.toList 1 fr (k + 2) P) := erel_behind hr (by rw [len_data]; omega)
                clear h34 h92 hr
                go_wp2
                go_round
                case rel => exact ⟨fr, k + 2, true, P, by go_num, rfl, by go_num, by omega, Or.inl ⟨by omega, HR.out, hbuf⟩⟩
                case measure => simp [intOf] <;> omega
              · have HR : Hid (ERel s.data.toList 1 fr (k + 1) P) := by
                  have hz : k + 1 = s.data.toList.length := by rw [len_data]; omega
                  show ERel _ _ _ _ _
                  rw [hz] at hr ⊢
                  exact erel_behind_end hr
                clear h34 h92 hr
                go_wp2
                go_round
                case rel => exact ⟨fr, k + 1, true, P, by go_num, rfl, by go_num, by omega, Or.inl ⟨by omega, HR.out, hbuf⟩⟩
                case measure => simp [intOf] <;> omega
            · have g92 : ((s[k].toNat : Int) == 92) = false := by simpa using h92
              rw [if_neg (by rw [← Hat.out]; exact u8ne h92)] at hr
              have HR : Hid (ERel s.data.toList 1 fr (k + 1) P) := hr
              clear h34 h92 hr
              go_wp2
              go_round
              case rel => exact ⟨fr, k + 1, true, P, by go_num, rfl, by go_num, by omega, Or.inl ⟨by omega, HR.out, hbuf⟩⟩
              case measure => simp [intOf] <;> omega
    · have hgt : ¬ (k : Int) ≤ (s.size : Int) := by omega
      go_wp2
      go_ret
      exact ⟨_, rfl, hbuf⟩
set_option maxHeartbeats 1000000 in
theorem sElements_any (s : ByteArray) (w : World) (hsm : s.size ≤ maxLen) :
    Calls Tryz.prog 205 #[.string s] w fun e w' => ∃ v, e = .returned v ∧ BufS w w' v (elsB s) := by
  by_cases hs : s.size ≤ 4000
  · exact sElements_small s w hs
  · have hb : Hid (elsB s = []) := els_big (by omega)
    have hnb : (4000 : Int) < (s.size : Int) := by omega
    clear hs
    go_enter Tryz.func205, Tryz.ntmps205
    go_wp2
    go_ret
    exact ⟨_, rfl, by rw [hb.out]; exact BufS.start w⟩
end Go.Proofs.YthdgeepedofleaaGreatDoor
namespace Go.Proofs.YthdgeepedofleaaGreatDoor
set_option linter.unusedVariables false
set_option linter.unusedSimpArgs false
open Go.RowKit
theorem joinL_lib : ∀ l : List ByteArray, Lib.join (l.map (·.data.toList)) [44, 32] = joinL l
  | [] => rfl
  | [a] => by simp [Lib.join, joinL, List.intercalate, List.intersperse]
  | a :: b :: r => by
    have ih := joinL_lib (b :: r)
    rw [joinL_two, ← ih]
    simp [Lib.join, List.intercalate, List.intersperse]
theorem joinB_len {l : List Fd} {n : ByteArray} : (joinL (valuesL l n)).length ≤ 3840 := by
  have h1 := joinL_len (valuesL l n) 190 (fun v hv => valuesL_size hv)
  have h2 := valuesL_len l n
  have h3 : (valuesL l n).length * (190 + 2) ≤ 20 * 192 := Nat.mul_le_mul h2 (by omega)
  omega
theorem joinB_size {l : List Fd} {n : ByteArray} : (joinB (valuesL l n)).size ≤ 3840 := by
  show (joinL (valuesL l n)).toArray.size ≤ _
  simpa using joinB_len
theorem Tryz.extraJ : Builder.Extra Tryz.prog Tryz.lays156_ren := { sizeBuilder := by kernel_rfl, liesBuilder := by kernel_rfl, t5 := Tryz.underlying5, a5 := Tryz.isAgg5, z5 := Tryz.sizeOf5, v5 := Tryz.zeroValue5, infoByte := by kernel_rfl, cellsByte := by kernel_rfl, sizeByte := by kernel_rfl, neB5 := by decide }
theorem Join_any (w0 w : World) (v : Value) (l : List ByteArray) (hb : BufS w0 w v l) (hl : l.length ≤ 20) (hlen : (joinL l).length ≤ 3840) :
    Calls Tryz.prog 229 #[v, .string ⟨#[44, 32]⟩] w fun e w' => e = .returned (.string (joinB l)) ∧ Below w.heap.size w w' := by
  rcases hb.own.2 with ⟨h1, h2⟩ | ⟨g, cap, cur, h1, hg, hh, hc, _⟩
  · obtain rfl : l = [] := List.eq_nil_of_length_eq_zero h2
    subst h1
    refine (Any.strings_Join_none Tryz.lays156 Tryz.extraJ none 0 ⟨#[44, 32]⟩ w).mono ?_
    rintro e w' ⟨rfl, rfl⟩
    exact ⟨rfl, Below.refl _ _⟩
  · have hlt := (hb.own.lt g (by rw [h1]; rfl)).2
    have hcell : ∀ (j : Nat) x, l[j]? = some x → w.cell? ⟨g, 0 + j, none⟩ = some (.string x) := by
      intro j x hx
      have := hb.own.cells (g := g) (by rw [h1]; rfl) j (.string x) (by simp [hx])
      rwa [Addr.add_lit] at this
    subst h1
    have := Any.strings_Join Tryz.lays156 Tryz.extraJ g 0 cap l ⟨#[44, 32]⟩ w hcell hlt (by omega) hc (by
      show (Lib.join (l.map (·.data.toList)) [44, 32]).length ≤ _
      rw [joinL_lib]; omega)
    refine this.mono ?_
    rintro e w' ⟨rfl, hb'⟩
    refine ⟨?_, hb'⟩
    show Ending.returned (.string ⟨(Lib.join (l.map (·.data.toList)) [44, 32]).toArray⟩) = _
    rw [joinL_lib]; rfl
set_option maxHeartbeats 1000000 in
theorem Joined_any (v : Value) (l : List Fd) (n : ByteArray) (w : World) (hv : SlF w v l) (hl : l.length ≤ 1048576) (ht : totF l ≤ 1099511627776) (hn : n.size ≤ maxLen) :
    Calls Tryz.prog 255 #[v, .string n] w fun e w' => e = .returned (.string (joinB (valuesL l n))) ∧ Below w.heap.size w w' := by
  have HV := hideB2 (Values_any v l n w hv hl ht hn)
  have HJ := hideB2 (fun w1 v1 (h : BufS w w1 v1 (valuesL l n)) => Join_any w w1 v1 _ h (valuesL_len l n) joinB_len)
  generalize valuesL l n = L at *
  generalize joinB L = R at *
  obtain ⟨a, c0, rfl⟩ := hv.form
  go_enter Tryz.func255, Tryz.ntmps255
  go_wp2_with fail
  refine HV.out.mono ?_
  rintro e w1 ⟨v1, rfl, hb1⟩
  go_wp2_with fail
  refine (HJ.out w1 v1 hb1).mono ?_
  rintro e w2 ⟨rfl, hb2⟩
  have HB := hideB2 (below_then hb1.below hb2)
  clear hb1 hb2
  go_wp2
  go_ret
  exact ⟨rfl, HB.out⟩
theorem joinB_next (l : List ByteArray) (k : Nat) (h : k < l.length) (h0 : 0 < k) : joinB (l.take k) ++ ⟨#[44, 32]⟩ ++ txAt l k = joinB (l.take (k + 1)) := by
  apply bytes_ext
  rw [List.take_succ_eq_append_getElem h]
  show _ = joinL (l.take k ++ [l[k]])
  rw [joinL_snoc _ _ (by intro hh; have := congrArg List.length hh; rw [List.length_take, List.length_nil] at this; omega), txAt_get h]
  simp [Go.Joins.data_append, joinB]
theorem joinB_first (l : List ByteArray) (h : 0 < l.length) : (⟨#[]⟩ : ByteArray) ++ txAt l 0 = joinB (l.take 1) := by
  apply bytes_ext
  rw [List.take_succ_eq_append_getElem h, txAt_get h]
  simp [Go.Joins.data_append, joinB, joinL]
theorem joinL_take (l : List ByteArray) (m k : Nat) (h : ∀ v ∈ l, v.size ≤ m) : (joinL (l.take k)).length ≤ l.length * (m + 2) := by
  have h1 := joinL_len (l.take k) m (fun v hv => h v (List.mem_of_mem_take hv))
  rw [List.length_take] at h1
  exact Nat.le_trans h1 (Nat.mul_le_mul_right _ (by omega))
set_option maxHeartbeats 2000000 in
theorem sJoined_any (v : Value) (l : List Fd) (n : ByteArray) (w : World) (hv : SlF w v l) (hl : l.length ≤ 1048576) (ht : totF l ≤ 1099511627776) (hn : n.size ≤ maxLen) :
    Calls Tryz.prog 206 #[v, .string n] w fun e w' => e = .returned (.string (joinB (valuesL l n))) ∧ Below w.heap.size w w' := by
  have HV := hideB2 (sValues_any v l n w hv hl ht hn)
  have hm := valuesL_len l n
  have HSZ := hideB2 (fun v (h : v ∈ valuesL l n) => valuesL_size h)
  generalize valuesL l n = L at *
  obtain ⟨a, c0, rfl⟩ := hv.form
  go_enter Tryz.func206, Tryz.ntmps206
  go_wp2_with fail
  refine HV.out.mono ?_
  rintro e w1 ⟨v1, rfl, hb1⟩
  have HB := hideB2 hb1.below
  obtain ⟨hs1, _, _⟩ := hb1.ans
  obtain ⟨a1, c1, rfl⟩ := hs1.form
  have HS := hideB2 hs1
  clear hb1 hs1 HV
  generalize hq : L.length = q at *
  have HQ := hideB2 hq
  clear hq
  go_wp2
  go_loop [6, 7] (fun o i => ∃ k : Nat, k ≤ q ∧ i = .int .i64 k ∧ o = .string (joinB (L.take k))) (fun _ i => q - (intOf i).toNat)
  case atStart => exact ⟨0, Nat.zero_le _, rfl, rfl⟩
  case round =>
    obtain ⟨k, hk, rfl, rfl⟩ := hrel
    by_cases hlt : k < q
    · have hklt : k < L.length := by rw [HQ.out]; exact hlt
      obtain ⟨b, rfl, hr⟩ := HS.out.row (by omega)
      have p0 := hr.cell k hklt
      have hsz : (txAt L k).size ≤ 190 := HSZ.out _ (by rw [txAt_get hklt]; exact List.getElem_mem hklt)
      have hsj : (joinB (L.take k)).size ≤ 3840 := by
        have h1 := joinL_take L 190 k HSZ.out
        rw [HQ.out] at h1
        have h3 : q * (190 + 2) ≤ 20 * 192 := Nat.mul_le_mul hm (by omega)
        show (joinL (L.take k)).toArray.size ≤ _
        simp; omega
      by_cases h0 : 0 < k
      · have HNX := hideB2 (joinB_next L k hklt h0)
        have h0' : (0 : Int) < (k : Int) := by omega
        clear hr hklt
        generalize txAt L k = x at *
        generalize joinB (L.take k) = y at *
        go_wp2
        go_round
        case rel => exact ⟨k + 1, by omega, by go_num, by rw [← HNX.out]⟩
        case measure => simp [intOf]; omega
      · obtain rfl : k = 0 := by omega
        have HNX := hideB2 (joinB_first L (by omega))
        have he : joinB (L.take 0) = ⟨#[]⟩ := rfl
        rw [he]
        rw [he] at hsj
        clear hr hklt he
        generalize txAt L 0 = x at *
        go_wp2
        go_round
        case rel => exact ⟨1, by omega, by go_num, by rw [← HNX.out]⟩
        case measure => simp [intOf]; omega
    · obtain rfl : k = q := by omega
      have HE := hideB2 (show L.take k = L from List.take_of_length_le (by rw [HQ.out]; exact Nat.le_refl _))
      rw [HE.out]
      clear HE
      go_wp2
      go_ret
      exact ⟨rfl, HB.out⟩
set_option maxHeartbeats 1000000 in
theorem Words_any (v : Value) (l : List Fd) (n : ByteArray) (w : World) (hv : SlF w v l) (hl : l.length ≤ 1048576) (ht : totF l ≤ 1099511627776) (hn : n.size ≤ maxLen) :
    Calls Tryz.prog 220 #[v, .string n] w fun e w' => ∃ v', e = .returned v' ∧ BufS w w' v' (elsB (joinB (valuesL l n))) := by
  have HV := hideB2 (Joined_any v l n w hv hl ht hn)
  have HE := hideB2 (fun W => Elements_any (joinB (valuesL l n)) W (by have := joinB_size (l := l) (n := n); unfold maxLen; omega))
  generalize joinB (valuesL l n) = R at *
  obtain ⟨a, c0, rfl⟩ := hv.form
  go_enter Tryz.func220, Tryz.ntmps220
  go_wp2_with fail
  refine HV.out.mono ?_
  rintro e w1 ⟨rfl, hb1⟩
  go_wp2_with fail
  refine (HE.out _).mono ?_
  rintro e w2 ⟨v2, rfl, hb2⟩
  have HB := hideB2 (hb2.base hb1)
  clear hb1 hb2
  go_wp2
  go_ret
  exact ⟨_, rfl, HB.out⟩
set_option maxHeartbeats 1000000 in
theorem sWords_any (v : Value) (l : List Fd) (n : ByteArray) (w : World) (hv : SlF w v l) (hl : l.length ≤ 1048576) (ht : totF l ≤ 1099511627776) (hn : n.size ≤ maxLen) :
    Calls Tryz.prog 162 #[v, .string n] w fun e w' => ∃ v', e = .returned v' ∧ BufS w w' v' (elsB (joinB (valuesL l n))) := by
  have HV := hideB2 (sJoined_any v l n w hv hl ht hn)
  have HE := hideB2 (fun W => sElements_any (joinB (valuesL l n)) W (by have := joinB_size (l := l) (n := n); unfold maxLen; omega))
  generalize joinB (valuesL l n) = R at *
  obtain ⟨a, c0, rfl⟩ := hv.form
  go_enter Tryz.func162, Tryz.ntmps162
  go_wp2_with fail
  refine HV.out.mono ?_
  rintro e w1 ⟨rfl, hb1⟩
  go_wp2_with fail
  refine (HE.out _).mono ?_
  rintro e w2 ⟨v2, rfl, hb2⟩
  have HB := hideB2 (hb2.base hb1)
  clear hb1 hb2
  go_wp2
  go_ret
  exact ⟨_, rfl, HB.out⟩
end Go.Proofs.YthdgeepedofleaaGreatDoor
namespace Go.Proofs.YthdgeepedofleaaGreatDoor
set_option linter.unusedVariables false
set_option linter.unusedSimpArgs false
open Go.RowKit
theorem elG_len : ∀ (l : List UInt8) (q : Nat) (cur : List UInt8), (elG q cur l).length ≤ l.length + 1
  | [], q, cur => by rw [elG_nil]; simp
  | b :: r, 0, cur => by
    rw [elG]; split
    · have := elG_len r 0 []; simp; omega
    · have := elG_len r (if b = 34 then 1 else 0) (cur ++ [b]); simp; omega
  | b :: r, 1, cur => by
    rw [elG]
    have := elG_len r (if b = 34 then 0 else if b = 92 then 2 else 1) (cur ++ [b]); simp; omega
  | b :: r, n + 2, cur => by
    rw [elG]
    · have := elG_len r 1 (cur ++ [b]); simp; omega
    · omega
    · omega
theorem elsB_len (s : ByteArray) : (elsB s).length ≤ 4001 := by
  unfold elsB
  split
  · rename_i h
    have h1 := cleanP_len (elG 0 [] s.data.toList)
    have h2 := elG_len s.data.toList 0 []
    rw [len_data] at h2
    omega
  · simp
end Go.Proofs.YthdgeepedofleaaGreatDoor
namespace Go.Proofs.YthdgeepedofleaaGreatDoor
set_option linter.unusedVariables false
set_option linter.unusedSimpArgs false
open Go.RowKit
theorem elsB_sz (s : ByteArray) (h : s.size ≤ 4000) : ∀ t ∈ elsB s, t.size ≤ 100000 := by
  have key : ∀ (L : List UInt8) (q : Nat) (cur : List UInt8), ∀ p ∈ elG q cur L, p.length ≤ cur.length + L.length := by
    intro L
    induction L with
    | nil => intro q cur p hp; rw [elG_nil] at hp; simp at hp; subst hp; simp
    | cons b r ih =>
      intro q cur p hp
      match q with
      | 0 =>
        rw [elG] at hp
        split at hp
        · rcases List.mem_cons.1 hp with rfl | hp
          · simp
          · have := ih 0 [] p hp; simp at this ⊢; omega
        · have := ih _ _ p hp; simp at this ⊢; omega
      | 1 => rw [elG] at hp; have := ih _ _ p hp; simp at this ⊢; omega
      | n + 2 =>
        rw [elG] at hp
        · have := ih _ _ p hp; simp at this ⊢; omega
        · omega
        · omega
  intro t ht
  rw [els_small h] at ht
  unfold cleanP at ht
  rw [List.mem_flatMap] at ht
  obtain ⟨p, hp, ht⟩ := ht
  unfold keepP at ht
  split at ht
  · simp at ht
  · simp at ht
    subst ht
    have h1 := key _ _ _ p hp
    rw [len_data] at h1
    have h2 : (trimL p).length ≤ p.length := by
      have := trimB_size ⟨p.toArray⟩
      show (trimL p).length ≤ _
      have e : (trimB ⟨p.toArray⟩).size = (trimL p).length := by show (trimL p).toArray.size = _; simp
      have e2 : (ByteArray.mk p.toArray).size = p.length := by show p.toArray.size = _; simp
      omega
    show (trimL p).toArray.size ≤ _
    simp at h1 ⊢; omega
end Go.Proofs.YthdgeepedofleaaGreatDoor
namespace Go.Proofs.YthdgeepedofleaaGreatDoor
set_option linter.unusedVariables false
set_option linter.unusedSimpArgs false
open Go.RowKit
def chB : ByteArray := ⟨#[99, 104, 117, 110, 107, 101, 100]⟩
def tAt (l : List ByteArray) (j : Nat) : ByteArray := l.getD j ⟨#[]⟩
def wordsL (l : List Fd) (n : ByteArray) : List ByteArray := elsB (joinB (valuesL l n))
/-- Is 'chunked' the only word? -/
def chkQ (ws : List ByteArray) : Bool := ((ws.length : Int) == 1) && eqB (foldB (tAt ws 0)) chB
/-- Are all words the same number? -/
def sameW (ws : List ByteArray) : Bool := ws.all fun x => eqB x (tAt ws 0)
def oneO (ws : List ByteArray) : Bool := !((ws.length : Int) == 0) && sameW ws && rdecOk (tAt ws 0)
def oneN (ws : List ByteArray) : Int := if oneO ws = true then rdecN (tAt ws 0) else 0
def teQ (l : List Fd) : Bool := getO l teN
def clQ (l : List Fd) : Bool := getO l clN
def frK (l : List Fd) (answer bare : Bool) : Int :=
  if fieldsQ l = false then 4
  else if teQ l = true ∧ (clQ l = true ∨ chkQ (wordsL l teN) = false) then 4
  else if clQ l = true ∧ oneO (wordsL l clN) = false then 4
  else if bare = true then 0
  else if teQ l = true then 2
  else if clQ l = true then 1
  else if answer = true then 3
  else 0
def frN (l : List Fd) (answer bare : Bool) : Int := if frK l answer bare = 1 then oneN (wordsL l clN) else 0
theorem words_len (l : List Fd) (n : ByteArray) : (wordsL l n).length ≤ 4001 := elsB_len _
theorem words_size (l : List Fd) (n : ByteArray) : ∀ j, (tAt (wordsL l n) j).size ≤ maxLen := by
  intro j
  unfold tAt maxLen
  rcases Nat.lt_or_ge j (wordsL l n).length with h | h
  · rw [List.getD, List.getElem?_eq_getElem h]
    have h2 : ((wordsL l n)[j]).size ≤ 100000 := elsB_sz (joinB (valuesL l n)) (by have := joinB_size (l := l) (n := n); omega) _ (List.getElem_mem h)
    show ((wordsL l n)[j]).size ≤ _
    omega
  · rw [List.getD, List.getElem?_eq_none h]
    show (0 : Nat) ≤ _
    omega
theorem sameW_yes {ws : List ByteArray} (h : ∀ j, j < ws.length → tAt ws j = tAt ws 0) : sameW ws = true := by
  unfold sameW
  rw [List.all_eq_true]
  intro x hx
  obtain ⟨j, hj, rfl⟩ := List.mem_iff_getElem.1 hx
  have := h j hj
  unfold tAt at this
  rw [List.getD, List.getElem?_eq_getElem hj] at this
  rw [eqB_iff]
  exact this
theorem sameW_no {ws : List ByteArray} {k : Nat} (hk : k < ws.length) (h : ¬ tAt ws k = tAt ws 0) : sameW ws = false := by
  cases hs : sameW ws with
  | false => rfl
  | true =>
    exfalso
    unfold sameW at hs
    rw [List.all_eq_true] at hs
    have := eqB_iff.1 (hs _ (List.getElem_mem hk))
    apply h
    rw [← this]
    unfold tAt
    rw [List.getD, List.getElem?_eq_getElem hk]
    rfl
theorem sameW_at {ws : List ByteArray} (h : sameW ws = true) {k : Nat} (hk : k < ws.length) : tAt ws k = tAt ws 0 := by
  by_cases h1 : tAt ws k = tAt ws 0
  · exact h1
  · rw [sameW_no hk h1] at h; cases h
theorem rdec_inj {a b : ByteArray} (ha : rdecOk a = true) (hb : rdecOk b = true) (h : rdecN a = rdecN b) : a = b := by
  unfold rdecOk rdecN at *
  obtain ⟨u, hu⟩ := Option.isSome_iff_exists.1 ha
  obtain ⟨v, hv⟩ := Option.isSome_iff_exists.1 hb
  rw [hu, hv] at h
  simp only [Option.getD_some] at h
  have huv : u = v := by omega
  subst huv
  have key : ∀ {s : ByteArray}, rdec s = some u → s.data.toList = Lib.decDigits u := by
    intro s hs
    unfold rdec at hs
    split at hs
    · rename_i hc
      have := Option.some.inj hs
      rw [← this]; exact hc.2.2.2.symm
    · cases hs
  apply bytes_ext
  rw [key hu, key hv]
theorem frK_no {l : List Fd} {answer bare : Bool} (h : fieldsQ l = false) : frK l answer bare = 4 ∧ frN l answer bare = 0 := by
  have h1 : frK l answer bare = 4 := by unfold frK; rw [if_pos h]
  exact ⟨h1, by unfold frN; rw [h1]; rfl⟩
/-- The kind and the number, of what was found. -/
def frK2 (te cl chk one answer bare : Bool) : Int := if te = true ∧ (cl = true ∨ chk = false) then 4 else if cl = true ∧ one = false then 4 else if bare = true then 0 else if te = true then 2 else if cl = true then 1 else if answer = true then 3 else 0
def frN2 (te cl chk one answer bare : Bool) (n : Int) : Int := if frK2 te cl chk one answer bare = 1 then n else 0
theorem frK_yes {l : List Fd} {answer bare : Bool} (h : fieldsQ l = true) : frK l answer bare = frK2 (teQ l) (clQ l) (chkQ (wordsL l teN)) (oneO (wordsL l clN)) answer bare ∧ frN l answer bare = frN2 (teQ l) (clQ l) (chkQ (wordsL l teN)) (oneO (wordsL l clN)) answer bare (oneN (wordsL l clN)) := by
  have h1 : frK l answer bare = frK2 (teQ l) (clQ l) (chkQ (wordsL l teN)) (oneO (wordsL l clN)) answer bare := by unfold frK; rw [if_neg (by rw [h]; simp)]; rfl
  exact ⟨h1, by unfold frN frN2; rw [h1]⟩
end Go.Proofs.YthdgeepedofleaaGreatDoor
namespace Go.Proofs.YthdgeepedofleaaGreatDoor
set_option linter.unusedVariables false
set_option linter.unusedSimpArgs false
open Go.RowKit
/-- A body, by what bounds it. -/
def bodX (s : ByteArray) (k n : Int) : Except Int ByteArray :=
  if k = 0 then (if s.size = 0 then .ok s else .error 400)
  else if k = 1 then (if 600 < n then .error 413 else if (s.size : Int) = n then .ok s else .error 400)
  else if k = 2 then ckX s
  else if k = 3 then (if 600 < s.size then .error 413 else .ok s)
  else .error 400
def bareR (answer head : Bool) (n : Int) : Bool := answer && (head || bareSt n)
def mgR (answer head : Bool) (h : Fl) (fs : List Fd) (body : ByteArray) : Mg := ⟨h.1, h.2.1, h.2.2.1, h.2.2.2, bareR answer head h.2.2.1, unfrL fs, body⟩
/-- A whole message. -/
def msX (answer head : Bool) (s : ByteArray) : Except Int Mg :=
  match hdX answer s with
  | .error c => .error c
  | .ok (h, fs, m) =>
    match bodX (s.extract m s.size) (frK fs answer (bareR answer head h.2.2.1)) (frN fs answer (bareR answer head h.2.2.1)) with
    | .error c => .error c
    | .ok body => if msgQ (mgR answer head h fs body) = true then .ok (mgR answer head h fs body) else .error 431
theorem ckR_size {s : ByteArray} : ∀ {n k : Nat} {body b : ByteArray}, body.size ≤ 600 → ckR s n k body = .ok b → b.size ≤ 600
  | 0, _, _, _, _, h => by rw [ckR] at h; cases h
  | n + 1, k, body, b, hb, h => by
    rw [ckR] at h
    split at h
    · cases h
    · split at h
      · cases h
      · split at h
        · cases h
        · rename_i h3
          split at h
          · split at h
            · injection h with h; subst h; exact hb
            · cases h
          · split at h
            · refine ckR_size ?_ h
              have hd := rhexN_bd (uptoS (lineAt s k))
              obtain ⟨z, hz⟩ := Int.eq_ofNat_of_zero_le hd.1
              rw [hz] at h3 ⊢
              have : (body ++ s.extract (tlE s k + 2) (tlE s k + 2 + (z : Int).toNat)).size = body.size + (s.extract (tlE s k + 2) (tlE s k + 2 + (z : Int).toNat)).size := by rw [ByteArray.size_append]
              rw [this, ByteArray.size_extract]
              simp only [Int.toNat_natCast]
              omega
            · cases h
theorem bodX_size {s : ByteArray} {k n : Int} {b : ByteArray} (hs : s.size ≤ 4000) (h : bodX s k n = .ok b) : b.size ≤ 4000 := by
  unfold bodX at h
  split at h
  · split at h
    · injection h with h; subst h; exact hs
    · cases h
  · split at h
    · split at h
      · cases h
      · split at h
        · injection h with h; subst h; exact hs
        · cases h
    · split at h
      · have := ckR_size (by exact Nat.zero_le 600) h; omega
      · split at h
        · split at h
          · cases h
          · injection h with h; subst h; exact hs
        · cases h
theorem fieldsQ_filter {l : List Fd} (p : Fd → Bool) (h : fieldsQ l = true) : fieldsQ (l.filter p) = true := by
  have h1 := fieldsQ_iff.1 h
  refine fieldsQ_iff.2 ⟨Nat.le_trans (List.length_filter_le _ _) h1.1, fun x hx => h1.2 x (List.mem_filter.1 hx).1⟩
theorem fold_clN : foldB clN = clN := by kernel_rfl
theorem fold_teN : foldB teN = teN := by kernel_rfl
theorem fold_trN : foldB trN = trN := by kernel_rfl
/-- The program's unframed is the specification's thrice without. -/
theorem unfr_without (l : List Fd) (h : fieldsQ l = true) : withoutL (withoutL (withoutL l clN) teN) trN = unfrL l := by
  have h1 : withoutL l clN = l.filter (fun x => !nameIs clN x) := by unfold withoutL; rw [if_pos h]
  have q1 := fieldsQ_filter (fun x => !nameIs clN x) h
  have h2 : withoutL (l.filter (fun x => !nameIs clN x)) teN = (l.filter (fun x => !nameIs clN x)).filter (fun x => !nameIs teN x) := by unfold withoutL; rw [if_pos q1]
  have q2 := fieldsQ_filter (fun x => !nameIs teN x) q1
  have h3 : withoutL ((l.filter (fun x => !nameIs clN x)).filter (fun x => !nameIs teN x)) trN = ((l.filter (fun x => !nameIs clN x)).filter (fun x => !nameIs teN x)).filter (fun x => !nameIs trN x) := by unfold withoutL; rw [if_pos q2]
  rw [h1, h2, h3, List.filter_filter, List.filter_filter]
  unfold unfrL
  refine congrArg (fun f => List.filter f l) ?_
  funext x
  unfold nameIs frmN
  rw [fold_clN, fold_teN, fold_trN]
  cases eqB (foldB x.1) clN <;> cases eqB (foldB x.1) teN <;> cases eqB (foldB x.1) trN <;> rfl
/-- The message that was read; none: the zero value. -/
def exM : Except Int Mg → Mg
  | .ok g => g
  | .error _ => mg0
theorem unfr_le (l : List Fd) : (unfrL l).length ≤ l.length := List.length_filter_le _ _
theorem exM_len (answer head : Bool) (s : ByteArray) : (exM (msX answer head s)).fs.length ≤ 20 := by
  unfold msX
  cases h : hdX answer s with
  | error c => exact Nat.zero_le _
  | ok x =>
    obtain ⟨⟨a, b, n, r⟩, fs, m⟩ := x
    have h1 := (hdX_facts h).2.2.2.2.1
    simp only
    cases bodX (s.extract m s.size) (frK fs answer (bareR answer head n)) (frN fs answer (bareR answer head n)) with
    | error c => exact Nat.zero_le _
    | ok body =>
      simp only
      split
      · have h2 := unfr_le fs
        simp only [exM, mgR]
        omega
      · exact Nat.zero_le _
theorem msX_bad {answer head : Bool} {s : ByteArray} {c : Int} (h : hdX answer s = .error c) : msX answer head s = .error c := by unfold msX; rw [h]
theorem msX_body {answer head : Bool} {s : ByteArray} {h : Fl} {fs : List Fd} {m : Nat} {c : Int} (h1 : hdX answer s = .ok (h, fs, m)) (h2 : bodX (s.extract m s.size) (frK fs answer (bareR answer head h.2.2.1)) (frN fs answer (bareR answer head h.2.2.1)) = .error c) : msX answer head s = .error c := by
  unfold msX; rw [h1]; simp only; rw [h2]
theorem msX_no {answer head : Bool} {s : ByteArray} {h : Fl} {fs : List Fd} {m : Nat} {body : ByteArray} (h1 : hdX answer s = .ok (h, fs, m)) (h2 : bodX (s.extract m s.size) (frK fs answer (bareR answer head h.2.2.1)) (frN fs answer (bareR answer head h.2.2.1)) = .ok body) (h3 : msgQ (mgR answer head h fs body) = false) : msX answer head s = .error 431 := by
  unfold msX; rw [h1]; simp only; rw [h2]; simp only; rw [if_neg (by rw [h3]; simp)]
theorem msX_yes {answer head : Bool} {s : ByteArray} {h : Fl} {fs : List Fd} {m : Nat} {body : ByteArray} (h1 : hdX answer s = .ok (h, fs, m)) (h2 : bodX (s.extract m s.size) (frK fs answer (bareR answer head h.2.2.1)) (frN fs answer (bareR answer head h.2.2.1)) = .ok body) (h3 : msgQ (mgR answer head h fs body) = true) : msX answer head s = .ok (mgR answer head h fs body) := by
  unfold msX; rw [h1]; simp only; rw [h2]; simp only; rw [if_pos h3]
theorem lnR_err {s : ByteArray} : ∀ {n k : Nat} {acc : List Fd} {c : Int}, lnR s n k acc = .error c → c ≠ 0
  | 0, _, _, _, h => by rw [lnR] at h; injection h with h; subst h; decide
  | n + 1, k, acc, c, h => by
    rw [lnR] at h
    split at h
    · rename_i h0; injection h with h; subst h; exact h0
    · split at h
      · cases h
      · split at h
        · injection h with h; subst h; decide
        · split at h
          · exact lnR_err h
          · injection h with h; subst h; decide
theorem hdX_err {answer : Bool} {s : ByteArray} {c : Int} (h : hdX answer s = .error c) : c ≠ 0 := by
  unfold hdX at h
  split at h
  · injection h with h; subst h; decide
  · split at h
    · rename_i h0; injection h with h; subst h; exact h0
    · cases hf : flX answer (lineAt s 0) with
      | none => rw [hdZ_none hf] at h; injection h with h; subst h; decide
      | some x =>
        cases hl : lnR s 21 (tlE s 0 + 2) [] with
        | error d => rw [hdZ_bad hf hl] at h; injection h with h; subst h; exact lnR_err hl
        | ok y => obtain ⟨fs, m⟩ := y; rw [hdZ_ok hf hl] at h; cases h
theorem ckR_err {s : ByteArray} : ∀ {n k : Nat} {body : ByteArray} {c : Int}, ckR s n k body = .error c → c ≠ 0
  | 0, _, _, _, h => by rw [ckR] at h; injection h with h; subst h; decide
  | n + 1, k, body, c, h => by
    rw [ckR] at h
    split at h
    · injection h with h; subst h; decide
    · split at h
      · injection h with h; subst h; decide
      · split at h
        · injection h with h; subst h; decide
        · split at h
          · split at h
            · cases h
            · injection h with h; subst h; decide
          · split at h
            · exact ckR_err h
            · injection h with h; subst h; decide
theorem bodX_err {s : ByteArray} {k n : Int} {c : Int} (h : bodX s k n = .error c) : c ≠ 0 := by
  unfold bodX at h
  split at h
  · split at h
    · cases h
    · injection h with h; subst h; decide
  · split at h
    · split at h
      · injection h with h; subst h; decide
      · split at h
        · cases h
        · injection h with h; subst h; decide
    · split at h
      · exact ckR_err h
      · split at h
        · split at h
          · injection h with h; subst h; decide
          · cases h
        · injection h with h; subst h; decide
theorem fieldsQ_of {l : List Fd} (h1 : l.length ≤ 20) (h2 : ∀ x ∈ l, fieldQ x = true) : fieldsQ l = true := fieldsQ_iff.2 ⟨h1, h2⟩
theorem fieldsQ_bds {l : List Fd} (h : fieldsQ l = true) : l.length ≤ 20 ∧ totF l ≤ 4600 := by
  have h1 := fieldsQ_iff.1 h
  have h2 := totF_of h1.2
  exact ⟨h1.1, by have := h1.1; omega⟩
theorem withoutL_fieldsQ {l : List Fd} (n : ByteArray) (h : fieldsQ l = true) : fieldsQ (withoutL l n) = true := by
  unfold withoutL
  rw [if_pos h]
  exact fieldsQ_filter _ h
end Go.Proofs.YthdgeepedofleaaGreatDoor
namespace Go.Proofs.YthdgeepedofleaaGreatDoor
set_option linter.unusedVariables false
set_option linter.unusedSimpArgs false

def leapB (y : Int) : Bool := decide (y % 4 = 0) && (!decide (y % 100 = 0) || decide (y % 400 = 0))
def lp (y : Int) : Int := if leapB y = true then 1 else 0
/-- The days of month m in the year y. -/
def dim (y m : Int) : Int := if m = 2 then 28 + lp y else if m = 4 ∨ m = 6 ∨ m = 9 ∨ m = 11 then 30 else 31
/-- The days of the year y ahead of month m. -/
def cum (y m : Int) : Int :=
  if m ≤ 1 then 0 else if m = 2 then 31 else lp y + (if m = 3 then 59 else if m = 4 then 90 else if m = 5 then 120 else if m = 6 then 151 else if m = 7 then 181 else if m = 8 then 212 else if m = 9 then 243 else if m = 10 then 273 else if m = 11 then 304 else if m = 12 then 334 else 365)
/-- The days from 1970 to the beginning of the year y. -/
def dby (y : Int) : Int := 365 * (y - 1970) + ((y - 1) / 4 - (y - 1) / 100 + (y - 1) / 400) - 477

theorem leapB_iff (y : Int) : leapB y = true ↔ y % 4 = 0 ∧ (y % 100 ≠ 0 ∨ y % 400 = 0) := by
  unfold leapB; simp
theorem lp_pos {y : Int} (h : leapB y = true) : lp y = 1 := by unfold lp; rw [if_pos h]
theorem lp_neg {y : Int} (h : leapB y = false) : lp y = 0 := by unfold lp; rw [if_neg (by rw [h]; decide)]
theorem lp_01 (y : Int) : lp y = 0 ∨ lp y = 1 := by unfold lp; split <;> simp
theorem lp_bd (y : Int) : 0 ≤ lp y ∧ lp y ≤ 1 := by rcases lp_01 y with h | h <;> omega
theorem dby_succ (y : Int) : dby (y + 1) = dby y + 365 + lp y := by
  have hl : lp y = if y % 4 = 0 ∧ (y % 100 ≠ 0 ∨ y % 400 = 0) then 1 else 0 := by
    unfold lp
    by_cases h : leapB y = true
    · rw [if_pos h, if_pos ((leapB_iff y).1 h)]
    · rw [if_neg h, if_neg (fun hh => h ((leapB_iff y).2 hh))]
  unfold dby
  rw [hl]
  split <;> omega
theorem dby_1970 : dby 1970 = 0 := by decide
theorem dby_10000 : dby 10000 = 2932897 := by decide
theorem dby_mono {a b : Int} (h : a ≤ b) : dby a ≤ dby b := by
  obtain ⟨k, rfl⟩ : ∃ k : Nat, b = a + k := ⟨(b - a).toNat, by omega⟩
  clear h
  induction k with
  | zero => simp
  | succ k ih =>
    have h1 := dby_succ (a + k)
    have h2 := lp_bd (a + k)
    have e : a + ((k + 1 : Nat) : Int) = a + k + 1 := by omega
    rw [e, h1]
    omega
theorem dby_bd {y : Int} (h0 : 1970 ≤ y) (h1 : y ≤ 10000) : 0 ≤ dby y ∧ dby y ≤ 2932897 := by
  have a := dby_mono h0
  have b := dby_mono h1
  rw [dby_1970] at a
  rw [dby_10000] at b
  exact ⟨a, b⟩
theorem month_cases {m : Int} (h0 : 1 ≤ m) (h1 : m ≤ 12) : m = 1 ∨ m = 2 ∨ m = 3 ∨ m = 4 ∨ m = 5 ∨ m = 6 ∨ m = 7 ∨ m = 8 ∨ m = 9 ∨ m = 10 ∨ m = 11 ∨ m = 12 := by omega
theorem cum_succ (y m : Int) (h0 : 1 ≤ m) (h1 : m ≤ 12) : cum y (m + 1) = cum y m + dim y m := by
  rcases month_cases h0 h1 with rfl | rfl | rfl | rfl | rfl | rfl | rfl | rfl | rfl | rfl | rfl | rfl <;> simp [cum, dim] <;> omega
theorem cum_one (y : Int) : cum y 1 = 0 := by simp [cum]
theorem cum_13 (y : Int) : cum y 13 = 365 + lp y := by simp [cum]; omega
theorem dim_bd (y m : Int) : 28 ≤ dim y m ∧ dim y m ≤ 31 := by
  have := lp_bd y
  unfold dim
  split
  · omega
  · split <;> omega
theorem cum_bd (y m : Int) : 0 ≤ cum y m ∧ cum y m ≤ 366 := by
  have := lp_bd y
  unfold cum
  repeat' split
  all_goals omega
theorem cum_mono (y : Int) {a b : Int} (h0 : 1 ≤ a) (h : a ≤ b) (h1 : b ≤ 13) : cum y a ≤ cum y b := by
  obtain ⟨k, rfl⟩ : ∃ k : Nat, b = a + k := ⟨(b - a).toNat, by omega⟩
  clear h
  induction k with
  | zero => simp
  | succ k ih =>
    have h1 := cum_succ y (a + k) (by omega) (by omega)
    have h2 := dim_bd y (a + k)
    have e : a + ((k + 1 : Nat) : Int) = a + k + 1 := by omega
    have := ih (by omega)
    rw [e, h1]
    omega
/-- A day that there is, and an hour. -/
def vld (y m d h i s : Int) : Prop := 1970 ≤ y ∧ y ≤ 9999 ∧ 1 ≤ m ∧ m ≤ 12 ∧ 1 ≤ d ∧ d ≤ dim y m ∧ 0 ≤ h ∧ h ≤ 23 ∧ 0 ≤ i ∧ i ≤ 59 ∧ 0 ≤ s ∧ s ≤ 59
def vldB (y m d h i s : Int) : Bool := decide (1970 ≤ y ∧ y ≤ 9999 ∧ 1 ≤ m ∧ m ≤ 12 ∧ 1 ≤ d ∧ d ≤ dim y m ∧ 0 ≤ h ∧ h ≤ 23 ∧ 0 ≤ i ∧ i ≤ 59 ∧ 0 ≤ s ∧ s ≤ 59)
theorem vldB_iff {y m d h i s : Int} : vldB y m d h i s = true ↔ vld y m d h i s := by unfold vldB vld; rw [decide_eq_true_iff]
/-- The days ahead, and the seconds. -/
def dnum (y m d : Int) : Int := dby y + cum y m + d - 1
def secs (y m d h i s : Int) : Int := dnum y m d * 86400 + h * 3600 + i * 60 + s
theorem cum_top (y m : Int) (h0 : 1 ≤ m) (h1 : m ≤ 12) : cum y m + dim y m ≤ 365 + lp y := by
  have a := cum_succ y m h0 h1
  have b := cum_mono y (a := m + 1) (b := 13) (by omega) (by omega) (by omega)
  rw [cum_13] at b
  omega
theorem dnum_lt {y m d h i s : Int} (hv : vld y m d h i s) : dby y ≤ dnum y m d ∧ dnum y m d < dby (y + 1) := by
  obtain ⟨a, b, c, e, f, g, _⟩ := hv
  have h1 := cum_top y m c e
  have h2 := cum_bd y m
  have h3 := dby_succ y
  unfold dnum
  omega
theorem dnum_bd {y m d h i s : Int} (hv : vld y m d h i s) : 0 ≤ dnum y m d ∧ dnum y m d ≤ 2932896 := by
  have h1 := dnum_lt hv
  obtain ⟨a, b, _⟩ := hv
  have h2 := dby_bd a (by omega)
  have h3 := dby_mono (a := y + 1) (b := 10000) (by omega)
  rw [dby_10000] at h3
  omega
theorem secs_bd {y m d h i s : Int} (hv : vld y m d h i s) : 0 ≤ secs y m d h i s ∧ secs y m d h i s ≤ 253402300799 := by
  have h1 := dnum_bd hv
  obtain ⟨_, _, _, _, _, _, a, b, c, e, f, g⟩ := hv
  unfold secs
  omega
theorem secs_parts {y m d h i s : Int} (hv : vld y m d h i s) :
    secs y m d h i s / 86400 = dnum y m d ∧ secs y m d h i s % 86400 = h * 3600 + i * 60 + s ∧ secs y m d h i s / 3600 % 24 = h ∧ secs y m d h i s / 60 % 60 = i ∧ secs y m d h i s % 60 = s := by
  obtain ⟨_, _, _, _, _, _, a, b, c, e, f, g⟩ := hv
  unfold secs
  omega
theorem clock_parts {h i s : Int} (a : 0 ≤ h) (b : h ≤ 23) (c : 0 ≤ i) (e : i ≤ 59) (f : 0 ≤ s) (g : s ≤ 59) :
    (h * 3600 + i * 60 + s) / 3600 = h ∧ (h * 3600 + i * 60 + s) / 60 % 60 = i ∧ (h * 3600 + i * 60 + s) % 60 = s := by omega
/-- Each day has its year: just the one. -/
theorem year_iff {y m d h i s : Int} (hv : vld y m d h i s) (k : Int) : dby (k + 1) ≤ dnum y m d ↔ k < y := by
  have h1 := dnum_lt hv
  constructor
  · intro hk
    rcases (by omega : k < y ∨ y ≤ k) with h | h
    · exact h
    · have := dby_mono (a := y + 1) (b := k + 1) (by omega); omega
  · intro hk
    have := dby_mono (a := k + 1) (b := y) (by omega); omega
theorem month_iff {y m d h i s : Int} (hv : vld y m d h i s) (k : Int) (k0 : 1 ≤ k) (k1 : k ≤ m) : dim y k ≤ cum y m + d - 1 - cum y k ↔ k < m := by
  obtain ⟨_, _, c, e, f, g, _⟩ := hv
  have h1 := cum_succ y k k0 (by omega)
  constructor
  · intro hk
    rcases (by omega : k < m ∨ m ≤ k) with h | h
    · exact h
    · obtain rfl : k = m := by omega
      omega
  · intro hk
    have := cum_mono y (a := k + 1) (b := m) (by omega) (by omega) (by omega); omega
theorem year_of (n : Nat) : ∃ y : Int, 1970 ≤ y ∧ dby y ≤ n ∧ (n : Int) < dby (y + 1) := by
  induction n with
  | zero => exact ⟨1970, by omega, by decide, by decide⟩
  | succ n ih =>
    obtain ⟨y, h0, h1, h2⟩ := ih
    by_cases h : ((n + 1 : Nat) : Int) < dby (y + 1)
    · exact ⟨y, h0, by omega, h⟩
    · have h3 := dby_succ (y + 1)
      have h4 := lp_bd (y + 1)
      exact ⟨y + 1, by omega, by omega, by omega⟩
theorem month_of (y r : Int) (h0 : 0 ≤ r) (h1 : r < 365 + lp y) : ∃ m : Int, 1 ≤ m ∧ m ≤ 12 ∧ cum y m ≤ r ∧ r < cum y m + dim y m := by
  have key : ∀ k : Nat, k ≤ 12 → r < cum y (13 : Int) → (∃ m : Int, 1 ≤ m ∧ m ≤ 12 ∧ cum y m ≤ r ∧ r < cum y (m + 1)) ∨ r < cum y (13 - k) := by
    intro k
    induction k with
    | zero => intro _ h; right; simpa using h
    | succ k ih =>
      intro hk h
      rcases ih (by omega) h with h' | h'
      · left; exact h'
      · by_cases hc : cum y (13 - ((k + 1 : Nat) : Int)) ≤ r
        · left
          exact ⟨13 - ((k + 1 : Nat) : Int), by omega, by omega, hc, by rw [show (13 - ((k + 1 : Nat) : Int) + 1 : Int) = 13 - k by omega]; exact h'⟩
        · right; omega
  rcases key 12 (by omega) (by rw [cum_13]; exact h1) with ⟨m, a, b, c, e⟩ | h
  · exact ⟨m, a, b, c, by rw [cum_succ y m a b] at e; exact e⟩
  · have : cum y (13 - ((12 : Nat) : Int)) = 0 := cum_one y
    omega
/-- Each time has its day and hour. -/
theorem civ_of (t : Int) (h0 : 0 ≤ t) (h1 : t ≤ 253402300799) : ∃ y m d h i s : Int, vld y m d h i s ∧ t = secs y m d h i s := by
  obtain ⟨n, hn⟩ : ∃ n : Nat, t / 86400 = n := ⟨(t / 86400).toNat, by omega⟩
  obtain ⟨y, a, b, c⟩ := year_of n
  have hs := dby_succ y
  obtain ⟨m, e, f, g, k⟩ := month_of y (n - dby y) (by omega) (by omega)
  have hy : y ≤ 9999 := by
    rcases (by omega : y < 10000 ∨ 10000 ≤ y) with h | h
    · omega
    · have := dby_mono h; rw [dby_10000] at this; omega
  refine ⟨y, m, n - dby y - cum y m + 1, t / 3600 % 24, t / 60 % 60, t % 60, ⟨a, hy, e, f, by omega, by omega, by omega, by omega, by omega, by omega, by omega, by omega⟩, ?_⟩
  unfold secs dnum
  omega
theorem dnum_inj {y m d h i s y' m' d' h' i' s' : Int} (hv : vld y m d h i s) (hv' : vld y' m' d' h' i' s') (e : dnum y m d = dnum y' m' d') : y = y' ∧ m = m' ∧ d = d' := by
  have a1 := dnum_lt hv
  have a2 := dnum_lt hv'
  have ey : y = y' := by
    rcases Int.lt_trichotomy y y' with h | h | h
    · have := dby_mono (a := y + 1) (b := y') (by omega); omega
    · exact h
    · have := dby_mono (a := y' + 1) (b := y) (by omega); omega
  subst ey
  obtain ⟨_, _, b1, b2, b3, b4, _⟩ := hv
  obtain ⟨_, _, c1, c2, c3, c4, _⟩ := hv'
  have d1 := cum_succ y m b1 b2
  have d2 := cum_succ y m' c1 c2
  unfold dnum at e
  have em : m = m' := by
    rcases Int.lt_trichotomy m m' with h | h | h
    · have := cum_mono y (a := m + 1) (b := m') (by omega) (by omega) (by omega); omega
    · exact h
    · have := cum_mono y (a := m' + 1) (b := m) (by omega) (by omega) (by omega); omega
  subst em
  exact ⟨rfl, rfl, by omega⟩
theorem secs_inj {y m d h i s y' m' d' h' i' s' : Int} (hv : vld y m d h i s) (hv' : vld y' m' d' h' i' s') (e : secs y m d h i s = secs y' m' d' h' i' s') : y = y' ∧ m = m' ∧ d = d' ∧ h = h' ∧ i = i' ∧ s = s' := by
  have a := secs_parts hv
  have b := secs_parts hv'
  rw [e] at a
  obtain ⟨e1, e2, e3⟩ := dnum_inj hv hv' (by omega)
  exact ⟨e1, e2, e3, by omega, by omega, by omega⟩
end Go.Proofs.YthdgeepedofleaaGreatDoor
namespace Go.Proofs.YthdgeepedofleaaGreatDoor
set_option linter.unusedVariables false
set_option linter.unusedSimpArgs false
open Go.RowKit

/-- The months' lengths, as the package-level table has them. -/
def mlen (k : Nat) : Int := [0, 31, 28, 31, 30, 31, 30, 31, 31, 30, 31, 30, 31].getD k 0
theorem mlen_dim (y : Int) (k : Nat) (h0 : 1 ≤ k) (h1 : k ≤ 12) (h : k ≠ 2 ∨ leapB y = false) : mlen k = dim y k := by
  have : k = 1 ∨ k = 2 ∨ k = 3 ∨ k = 4 ∨ k = 5 ∨ k = 6 ∨ k = 7 ∨ k = 8 ∨ k = 9 ∨ k = 10 ∨ k = 11 ∨ k = 12 := by omega
  rcases this with rfl | rfl | rfl | rfl | rfl | rfl | rfl | rfl | rfl | rfl | rfl | rfl <;> simp [mlen, dim]
  rcases h with h | h
  · omega
  · rw [lp_neg h]; rfl
theorem dim_feb {y : Int} (h : leapB y = true) : dim y 2 = 29 := by simp [dim, lp_pos h]

end Go.Proofs.YthdgeepedofleaaGreatDoor
namespace Go.Proofs.YthdgeepedofleaaGreatDoor
set_option linter.unusedVariables false
set_option linter.unusedSimpArgs false
open Go.RowKit

/-- A day and hour as the program holds it. -/
abbrev civ (y m d h i s : Int) : Value := .agg #[.int .i64 y, .int .i64 m, .int .i64 d, .int .i64 h, .int .i64 i, .int .i64 s]
theorem vldB_eq (y m d h i s : Int) : vldB y m d h i s = (withinB y 1970 9999 && withinB m 1 12 && withinB h 0 23 && withinB i 0 59 && withinB s 0 59 && withinB d 1 (dim y m)) := by
  unfold vldB withinB
  rw [Bool.eq_iff_iff]
  simp only [decide_eq_true_eq, Bool.and_eq_true]
  omega

end Go.Proofs.YthdgeepedofleaaGreatDoor
namespace Go.Proofs.YthdgeepedofleaaGreatDoor
set_option linter.unusedVariables false
set_option linter.unusedSimpArgs false
open Go.RowKit

def timeB (t : Int) : Bool := withinB t 0 253402300799
theorem timeB_iff {t : Int} : timeB t = true ↔ 0 ≤ t ∧ t ≤ 253402300799 := within_iff
theorem timeB_no {t : Int} (h : ¬ (0 ≤ t ∧ t ≤ 253402300799)) : timeB t = false := Bool.eq_false_iff.2 fun hh => h (timeB_iff.1 hh)
def lya (y : Int) : Int := (y - 1) / 4 - (y - 1) / 100 + (y - 1) / 400
theorem lya_1970 : lya 1970 = 477 := by decide
theorem lya_bd (y : Int) (h0 : 1 ≤ y) (h1 : y ≤ 20000) : 0 ≤ lya y ∧ lya y ≤ 20000 := by unfold lya; omega
theorem dby_lya (y : Int) : dby y = 365 * (y - 1970) + lya y - 477 := by unfold dby lya; omega
theorem dby_le (y : Int) (h : 1970 ≤ y) : dby y ≤ 366 * (y - 1970) := by unfold dby; omega
theorem ret_civ {a b c d e f a' b' c' d' e' f' : Int} (h0 : a = a') (h1 : b = b') (h2 : c = c') (h3 : d = d') (h4 : e = e') (h5 : f = f') (r : Bool) :
    Ending.returned (.tuple #[civ a b c d e f, .bool r]) = .returned (.tuple #[civ a' b' c' d' e' f', .bool r]) := by rw [h0, h1, h2, h3, h4, h5]
theorem ret_ib2 {k : IntKind} {n m : Int} {a b : Bool} (h : m = n) (h' : b = a) : Ending.returned (.tuple #[.int k n, .bool a]) = .returned (.tuple #[.int k m, .bool b]) := by rw [h, h']
/-- The day of the week, 0 for Monday. -/
def wdN (t : Int) : Nat := ((3 + t / 86400) % 7).toNat
theorem wdN_lt (t : Int) : wdN t < 7 := by unfold wdN; omega
theorem wdN_eq (t : Int) : ((wdN t : Nat) : Int) = (3 + t / 86400) % 7 := by unfold wdN; omega

set_option maxHeartbeats 400000 in
theorem isTime_any (t : Int) (w : World) :
    Calls Tryz.prog 101 #[.int .i64 t] w fun e w' => e = .returned (.bool (timeB t)) ∧ w' = w := by
  unfold timeB
  go_enter Tryz.func101, Tryz.ntmps101
  go_wp2_with fail
  refine (within_any _ _ _ _).mono ?_
  rintro e w' ⟨rfl, rfl⟩
  go_wp2
  go_ret
  exact ⟨rfl, rfl⟩
end Go.Proofs.YthdgeepedofleaaGreatDoor
namespace Go.Proofs.YthdgeepedofleaaGreatDoor
set_option linter.unusedVariables false
set_option linter.unusedSimpArgs false
open Go.RowKit
/-- Where the first byte c stands, or -1. -/
def idxS (c : UInt8) (s : ByteArray) : Int := Lib.indexByte s.data.toList c
theorem idxS_some {c : UInt8} {s : ByteArray} {i : Nat} (h : idxS c s = (i : Int)) : i < s.size ∧ at8 s i = c ∧ ∀ j, j < i → at8 s j ≠ c := by
  obtain ⟨h1, h2⟩ := Lib.indexByte_some h
  have hi : i < s.data.toList.length := (List.getElem?_eq_some_iff.1 h1).1
  have hi' : i < s.size := by rw [len_data] at hi; exact hi
  refine ⟨hi', by unfold at8; rw [List.getD, h1]; rfl, fun j hj he => h2 j hj ?_⟩
  have hj' : j < s.data.toList.length := by rw [len_data]; omega
  unfold at8 at he
  rw [List.getD, List.getElem?_eq_getElem hj'] at he
  rw [List.getElem?_eq_getElem hj']
  simpa using he
theorem idxS_none {c : UInt8} {s : ByteArray} (h : idxS c s = -1) : ∀ j, j < s.size → at8 s j ≠ c := by
  intro j hj he
  have hj' : j < s.data.toList.length := by rw [len_data]; omega
  refine Lib.indexByte_none h j ?_
  unfold at8 at he
  rw [List.getD, List.getElem?_eq_getElem hj'] at he
  rw [List.getElem?_eq_getElem hj']
  simpa using he
theorem idxS_cases (c : UInt8) (s : ByteArray) : idxS c s = -1 ∨ ∃ i : Nat, idxS c s = (i : Int) ∧ i < s.size := by
  have h := Lib.indexByte_ge s.data.toList c
  by_cases h1 : idxS c s = -1
  · exact .inl h1
  · right
    have h2 : -1 ≤ idxS c s := h
    have h3 : idxS c s = ((idxS c s).toNat : Int) := by omega
    exact ⟨(idxS c s).toNat, h3, (idxS_some h3).1⟩
theorem idxS_of {c : UInt8} {s : ByteArray} {i : Nat} (h1 : i < s.size) (h2 : at8 s i = c) (h3 : ∀ j, j < i → at8 s j ≠ c) : idxS c s = (i : Int) := by
  rcases idxS_cases c s with h | ⟨k, hk, _⟩
  · exact absurd h2 (idxS_none h i h1)
  · obtain ⟨g1, g2, g3⟩ := idxS_some hk
    rcases Nat.lt_trichotomy k i with h | h | h
    · exact absurd g2 (h3 k h)
    · rw [hk, h]
    · exact absurd h2 (g3 i h)
theorem idxS_miss {c : UInt8} {s : ByteArray} (h : ∀ j, j < s.size → at8 s j ≠ c) : idxS c s = -1 := by
  rcases idxS_cases c s with h1 | ⟨k, hk, _⟩
  · exact h1
  · obtain ⟨g1, g2, _⟩ := idxS_some hk
    exact absurd g2 (h k g1)
theorem idxS_B (c : UInt8) (s : ByteArray) : Lib.indexB s ⟨#[c]⟩ = idxS c s := by
  show Lib.index s.data.toList [c] = _
  exact Lib.index_one _ _
/-- How many there are, and the pieces between them. -/
def cntS (c : UInt8) (s : ByteArray) : Nat := Lib.countB s ⟨#[c]⟩
def splS (c : UInt8) (s : ByteArray) : List ByteArray := Lib.splitB ⟨#[c]⟩ 0 (cntS c s) s
theorem splS_none {c : UInt8} {s : ByteArray} (h : idxS c s = -1) : cntS c s = 0 ∧ splS c s = [s] := by
  have h1 : cntS c s = 0 := Lib.countB_miss s _ (by rw [idxS_B]; exact h)
  exact ⟨h1, by unfold splS; rw [h1]; rfl⟩
theorem splS_some {c : UInt8} {s : ByteArray} {i : Nat} (h : idxS c s = (i : Int)) : cntS c s = 1 + cntS c (s.extract (i + 1) s.size) ∧ splS c s = s.extract 0 i :: splS c (s.extract (i + 1) s.size) := by
  have h0 : Lib.indexB s ⟨#[c]⟩ = (i : Int) := by rw [idxS_B]; exact h
  have h1 := Lib.countB_hit s ⟨#[c]⟩ i (Nat.le_refl _) h0
  have e : (⟨#[c]⟩ : ByteArray).size = 1 := rfl
  rw [e] at h1
  refine ⟨h1, ?_⟩
  unfold splS
  rw [show cntS c s = 1 + cntS c (s.extract (i + 1) s.size) from h1, Nat.add_comm, Lib.splitB_hit _ _ _ _ i h0, e, Nat.add_zero]
theorem splS_len (c : UInt8) (s : ByteArray) : (splS c s).length = cntS c s + 1 := Lib.splitB_all _ (Nat.le_refl _) 0 _ s rfl
theorem splS_cnt (c : UInt8) (s : ByteArray) : cntS c s ≤ s.size := Lib.countB_le ⟨#[c]⟩ (Nat.le_refl _) s.size s (Nat.le_refl _)
theorem splS_ne (c : UInt8) (s : ByteArray) : splS c s ≠ [] := by
  intro h
  have := splS_len c s
  rw [h] at this
  simp at this
theorem at8_extS {s : ByteArray} {a b j : Nat} (hb : b ≤ s.size) (hj : a + j < b) : at8 (s.extract a b) j = at8 s (a + j) := by
  unfold at8
  rw [Lib.extract_data]
  simp only [List.getD]
  rw [List.getElem?_take_of_lt (by omega), List.getElem?_drop]
/-- The pieces and what parts them make no more than the text. -/
def sumS (l : List ByteArray) : Nat := (l.map ByteArray.size).sum
theorem splS_sum (c : UInt8) : ∀ (n : Nat) (s : ByteArray), s.size ≤ n → sumS (splS c s) + cntS c s = s.size
  | n, s, hn => by
    rcases idxS_cases c s with h | ⟨i, h, hi⟩
    · obtain ⟨h1, h2⟩ := splS_none h
      rw [h1, h2]; simp [sumS]
    · obtain ⟨h1, h2⟩ := splS_some h
      cases n with
      | zero => omega
      | succ n =>
        have e : (s.extract (i + 1) s.size).size = s.size - (i + 1) := by rw [ByteArray.size_extract]; omega
        have e0 : (s.extract 0 i).size = i := by rw [ByteArray.size_extract]; omega
        have ih := splS_sum c n (s.extract (i + 1) s.size) (by omega)
        rw [h1, h2]
        have : sumS (s.extract 0 i :: splS c (s.extract (i + 1) s.size)) = i + sumS (splS c (s.extract (i + 1) s.size)) := by simp [sumS, e0]
        omega
theorem sumS_mem {l : List ByteArray} {x : ByteArray} (h : x ∈ l) : x.size ≤ sumS l := by
  induction l with
  | nil => cases h
  | cons y r ih =>
    have e : sumS (y :: r) = y.size + sumS r := by simp [sumS]
    rcases List.mem_cons.1 h with rfl | h
    · omega
    · have := ih h; omega
theorem splS_mem {c : UInt8} {s x : ByteArray} (h : x ∈ splS c s) : x.size ≤ s.size := by
  have h1 := sumS_mem h
  have h2 := splS_sum c s.size s (Nat.le_refl _)
  omega
/-- Cut by one loop that goes on byte by byte. -/
theorem splS_step {c : UInt8} {s : ByteArray} {f i : Nat} (hf : f ≤ i) (hi : i < s.size) (h : at8 s i = c) (h0 : ∀ j, f ≤ j → j < i → at8 s j ≠ c) : splS c (s.extract f s.size) = s.extract f i :: splS c (s.extract (i + 1) s.size) := by
  have e : (s.extract f s.size).size = s.size - f := by rw [ByteArray.size_extract]; omega
  have hx : idxS c (s.extract f s.size) = ((i - f : Nat) : Int) := by
    refine idxS_of (by omega) ?_ ?_
    · rw [at8_extS (Nat.le_refl _) (by omega), show f + (i - f) = i by omega]; exact h
    · intro j hj
      rw [at8_extS (Nat.le_refl _) (by omega)]
      exact h0 _ (by omega) (by omega)
  rw [(splS_some hx).2, e, ByteArray.extract_extract, ByteArray.extract_extract]
  congr 2
  · congr 1 <;> omega
  · congr 1 <;> omega
theorem splS_end {c : UInt8} {s : ByteArray} {f : Nat} (h0 : ∀ j, f ≤ j → j < s.size → at8 s j ≠ c) : splS c (s.extract f s.size) = [s.extract f s.size] := by
  refine (splS_none (idxS_miss ?_)).2
  intro j hj
  have e : (s.extract f s.size).size = s.size - f := by rw [ByteArray.size_extract]; omega
  rw [at8_extS (Nat.le_refl _) (by omega)]
  exact h0 _ (by omega) (by omega)
/-- The texts with a byte ahead of each. -/
def tailS (c : UInt8) (l : List ByteArray) : List UInt8 := Lib.joinTail [c] (l.map (·.data.toList))
def joinS (c : UInt8) (l : List ByteArray) : ByteArray := ⟨(Lib.join (l.map (·.data.toList)) [c]).toArray⟩
theorem tailS_nil (c : UInt8) : tailS c [] = [] := rfl
theorem tailS_cons (c : UInt8) (x : ByteArray) (r : List ByteArray) : tailS c (x :: r) = c :: (x.data.toList ++ tailS c r) := by simp [tailS, Lib.joinTail]
theorem tailS_snoc (c : UInt8) (x : ByteArray) (l : List ByteArray) : tailS c (l ++ [x]) = tailS c l ++ c :: x.data.toList := by simp [tailS, Lib.joinTail]
theorem joinS_tail (c : UInt8) (x : ByteArray) (r : List ByteArray) : c :: (joinS c (x :: r)).data.toList = tailS c (x :: r) := by
  rw [tailS_cons]
  show c :: Lib.join ((x :: r).map (·.data.toList)) [c] = _
  rw [List.map_cons, Lib.join_cons]
  rfl
theorem tailS_len (c : UInt8) (l : List ByteArray) : (tailS c l).length = l.length + sumS l := by
  induction l with
  | nil => rfl
  | cons x r ih =>
    have e : sumS (x :: r) = x.size + sumS r := by simp [sumS]
    rw [tailS_cons, List.length_cons, List.length_append, ih, len_data, List.length_cons, e]; omega
end Go.Proofs.YthdgeepedofleaaGreatDoor
namespace Go.Proofs.YthdgeepedofleaaGreatDoor
set_option linter.unusedVariables false
set_option linter.unusedSimpArgs false
open Go.RowKit
def opnL : List UInt8 := [45, 46, 95, 126]
/-- A byte that stands for itself everywhere. -/
def opnP (n : Int) : Bool := letP n || digP n || inL opnL n
def opn8 (b : UInt8) : Bool := opnP (b.toNat : Int)
def hexP (b : UInt8) : Bool := decide (0 ≤ hex8 b)
/-- The byte that two digits name. -/
def nam8 (b c : UInt8) : UInt8 := UInt8.ofNat (hex8 b * 16 + hex8 c).toNat
def up8 (b : UInt8) : UInt8 := if 97 ≤ b.toNat ∧ b.toNat ≤ 122 then b - 32 else b
def pctP (b c : UInt8) : List UInt8 := if opn8 (nam8 b c) = true then [nam8 b c] else [37, up8 b, up8 c]
/-- What % stands for, where it may. -/
def evL : List UInt8 → List UInt8
  | [] => []
  | [a] => [a]
  | [a, b] => [a, b]
  | a :: b :: c :: r => if a = 37 ∧ hexP b = true ∧ hexP c = true then pctP b c ++ evL r else a :: evL (b :: c :: r)
theorem evL_hit {b c : UInt8} {r : List UInt8} (hb : hexP b = true) (hc : hexP c = true) : evL (37 :: b :: c :: r) = pctP b c ++ evL r := by
  rw [evL, if_pos ⟨rfl, hb, hc⟩]
theorem evL_miss {a : UInt8} {r : List UInt8} (h : ¬ (a = 37 ∧ ∃ b c q, r = b :: c :: q ∧ hexP b = true ∧ hexP c = true)) : evL (a :: r) = a :: evL r := by
  match r with
  | [] => rfl
  | [b] => rfl
  | b :: c :: q => rw [evL, if_neg (fun hh => h ⟨hh.1, b, c, q, rfl, hh.2.1, hh.2.2⟩)]
theorem pctP_len (b c : UInt8) : (pctP b c).length ≤ 3 := by unfold pctP; split <;> simp
theorem evL_len : ∀ (n : Nat) (l : List UInt8), l.length ≤ n → (evL l).length ≤ l.length
  | _, [], _ => Nat.le_refl _
  | _, [_], _ => Nat.le_refl _
  | _, [_, _], _ => Nat.le_refl _
  | 0, _ :: _ :: _ :: _, h => by simp at h
  | n + 1, a :: b :: c :: r, h => by
    rw [evL]
    split
    · have h1 := pctP_len b c
      have h2 := evL_len n r (by simp at h; omega)
      rw [List.length_append]; simp; omega
    · have h2 := evL_len n (b :: c :: r) (by simp at h ⊢; omega)
      rw [List.length_cons, List.length_cons (a := a)]; omega
/-- Do the bytes from i on begin with a % and two digits? -/
def hexAt (s : ByteArray) (i : Nat) : Bool := decide (i + 3 ≤ s.size) && (at8 s i == 37) && hexP (at8 s (i + 1)) && hexP (at8 s (i + 2))
theorem drop_at8 {s : ByteArray} {i : Nat} (h : i < s.size) : s.data.toList.drop i = at8 s i :: s.data.toList.drop (i + 1) := by
  have hl : i < s.data.toList.length := by rw [len_data]; exact h
  rw [List.drop_eq_getElem_cons hl]
  congr 1
  unfold at8
  rw [List.getD, List.getElem?_eq_getElem hl]; rfl
theorem hexAt_iff {s : ByteArray} {i : Nat} : hexAt s i = true ↔ i + 3 ≤ s.size ∧ at8 s i = 37 ∧ hexP (at8 s (i + 1)) = true ∧ hexP (at8 s (i + 2)) = true := by
  unfold hexAt
  simp [and_assoc]
theorem evL_at {s : ByteArray} {i : Nat} (h : hexAt s i = true) : evL (s.data.toList.drop i) = pctP (at8 s (i + 1)) (at8 s (i + 2)) ++ evL (s.data.toList.drop (i + 3)) := by
  obtain ⟨h1, h2, h3, h4⟩ := hexAt_iff.1 h
  rw [drop_at8 (i := i) (by omega), drop_at8 (i := i + 1) (by omega), drop_at8 (i := i + 1 + 1) (by omega), h2]
  exact evL_hit h3 h4
theorem evL_on {s : ByteArray} {i : Nat} (hi : i < s.size) (h : hexAt s i = false) : evL (s.data.toList.drop i) = at8 s i :: evL (s.data.toList.drop (i + 1)) := by
  rw [drop_at8 hi]
  refine evL_miss ?_
  rintro ⟨h1, b, c, q, hq, hb, hc⟩
  have hlen := congrArg List.length hq
  simp at hlen
  have hsz : i + 3 ≤ s.size := by have := len_data s; simp at this; omega
  rw [drop_at8 (i := i + 1) (by omega), drop_at8 (i := i + 1 + 1) (by omega)] at hq
  injection hq with e1 e2
  injection e2 with e2 _
  rw [← e1] at hb
  rw [← e2] at hc
  rw [hexAt_iff.2 ⟨hsz, h1, hb, hc⟩] at h
  cases h
/-- What the first bytes of s become, and how many they are. -/
def evP (s : ByteArray) : ByteArray := if hexAt s 0 = true then ⟨(pctP (at8 s 1) (at8 s 2)).toArray⟩ else s.extract 0 1
def evN (s : ByteArray) : Nat := if hexAt s 0 = true then 3 else 1
def evB (s : ByteArray) : ByteArray := ⟨(evL s.data.toList).toArray⟩
theorem evB_size (s : ByteArray) : (evB s).size ≤ s.size := by
  have h := evL_len s.data.toList.length s.data.toList (Nat.le_refl _)
  rw [len_data] at h
  show (evL s.data.toList).toArray.size ≤ _
  simpa using h
theorem evN_le {s : ByteArray} (h : 0 < s.size) : evN s ≤ s.size := by
  unfold evN
  split
  · rename_i h1; have := (hexAt_iff.1 h1).1; omega
  · omega
theorem evN_pos (s : ByteArray) : 1 ≤ evN s := by unfold evN; split <;> omega
theorem evP_size (s : ByteArray) : (evP s).size ≤ 3 := by
  unfold evP
  split
  · show (pctP _ _).toArray.size ≤ 3
    simpa using pctP_len _ _
  · rw [ByteArray.size_extract]; omega
theorem evB_step {s : ByteArray} (h : 0 < s.size) : evB s = evP s ++ evB (s.extract (evN s) s.size) := by
  apply bytes_ext
  rw [Go.Joins.data_append]
  show evL s.data.toList = _ ++ evL (s.extract (evN s) s.size).data.toList
  have e : (s.extract (evN s) s.size).data.toList = s.data.toList.drop (evN s) := by
    rw [Lib.extract_data]
    exact List.take_of_length_le (by rw [List.length_drop, len_data]; omega)
  rw [e]
  unfold evP evN
  split
  · rename_i h1
    have := evL_at h1
    rw [List.drop_zero] at this
    exact this
  · rename_i h1
    have h2 := evL_on h (by simpa using h1)
    rw [List.drop_zero] at h2
    rw [h2, Lib.extract_data]
    have := drop_at8 h
    rw [List.drop_zero] at this
    rw [List.drop_zero, this]
    rfl
/-- The pieces that stay. -/
def dd : ByteArray := ⟨#[46, 46]⟩
def d1 : ByteArray := ⟨#[46]⟩
def dotQ (x : ByteArray) : Bool := eqB x d1 || eqB x dd
def keepS (k : List ByteArray) (x : ByteArray) : List ByteArray := if eqB x dd = true then k.dropLast else if eqB x d1 = true then k else k ++ [x]
def keepL (l : List ByteArray) : List ByteArray := l.foldl keepS []
def lastDot (l : List ByteArray) : Bool := match l.getLast? with | some x => dotQ x | none => false
def keptL (l : List ByteArray) : List ByteArray := if lastDot l = true then keepL l ++ [⟨#[]⟩] else keepL l
theorem keepL_snoc (l : List ByteArray) (x : ByteArray) : keepL (l ++ [x]) = keepS (keepL l) x := by simp [keepL]
theorem keepL_take {l : List ByteArray} {k : Nat} (h : k < l.length) : keepL (l.take (k + 1)) = keepS (keepL (l.take k)) l[k] := by
  rw [List.take_succ_eq_append_getElem h, keepL_snoc]
theorem lastDot_take {l : List ByteArray} {k : Nat} (h : k < l.length) : lastDot (l.take (k + 1)) = dotQ l[k] := by
  rw [List.take_succ_eq_append_getElem h]
  unfold lastDot
  rw [List.getLast?_append]
  rfl
theorem keepS_le (k : List ByteArray) (x : ByteArray) : (keepS k x).length ≤ k.length + 1 ∧ sumS (keepS k x) ≤ sumS k + x.size := by
  have hd : sumS k.dropLast ≤ sumS k := by
    rcases List.eq_nil_or_concat k with rfl | ⟨q, y, rfl⟩
    · exact Nat.le_refl _
    · simp [sumS]
  unfold keepS
  split
  · rw [List.length_dropLast]; omega
  · split
    · omega
    · simp [sumS]
theorem keepL_le (l : List ByteArray) : (keepL l).length ≤ l.length ∧ sumS (keepL l) ≤ sumS l := by
  refine snoc_ind (p := fun l => (keepL l).length ≤ l.length ∧ sumS (keepL l) ≤ sumS l) ?_ ?_ l
  · exact ⟨Nat.le_refl _, Nat.le_refl _⟩
  · intro q x ih
    rw [keepL_snoc]
    have h := keepS_le (keepL q) x
    have e : sumS (q ++ [x]) = sumS q + x.size := by simp [sumS]
    rw [List.length_append, List.length_singleton, e]
    omega
/-- A path in its one form. -/
def clnL (l : List ByteArray) : ByteArray := if l = [] then ⟨#[47]⟩ else ⟨(tailS 47 l).toArray⟩
def nof8 (b : UInt8) : Bool := b != 35 && b != 63
def pthQ (p : ByteArray) : Bool := targQ p && (at8 p 0 == 47) && allB nof8 p
def clnB (p : ByteArray) : ByteArray := if pthQ p = true then clnL (keptL (splS 47 (evB (p.extract 1 p.size)))) else ⟨#[]⟩
end Go.Proofs.YthdgeepedofleaaGreatDoor
namespace Go.Proofs.YthdgeepedofleaaGreatDoor
set_option linter.unusedVariables false
set_option linter.unusedSimpArgs false
open Go.RowKit
abbrev Tab10 (w : World) : Prop := Lib.TabIs Tryz.prog w "internal/strconv.uint64pow10" .u64 Lib.pow10Tab
theorem decT_size (n : Int) : (decT n).size ≤ 15 := by
  unfold decT
  split
  · rename_i h
    have := decDigits_len n.toNat (by omega)
    show (Lib.decDigits n.toNat).toArray.size ≤ 15
    simpa using this
  · show (0 : Nat) ≤ 15; omega
theorem tab_later {w w' : World} (h : Tab10 w) (hb : Below w.heap.size w w') : Tab10 w' := by
  unfold Tab10 Lib.TabIs World.var? at *
  cases hg : Tryz.prog.globalNamed "internal/strconv.uint64pow10" with
  | none => rw [hg] at h; cases h
  | some g =>
    rw [hg] at h
    simp only [Option.bind_some] at h ⊢
    have hlt : g < w.heap.size := by
      rcases Nat.lt_or_ge g w.heap.size with h1 | h1
      · exact h1
      · rw [Array.getElem?_eq_none h1] at h; cases h
    rw [hb.block g hlt]; exact h
end Go.Proofs.YthdgeepedofleaaGreatDoor
namespace Go.Proofs.YthdgeepedofleaaGreatDoor
set_option linter.unusedVariables false
set_option linter.unusedSimpArgs false
open Go.RowKit
/-- A sign of a host, and of a host's piece. -/
def pcP (n : Int) : Bool := (decide (97 ≤ n) && decide (n ≤ 122)) || digP n || n == 45
def hstP (n : Int) : Bool := pcP n || n == 46
def pc8 (b : UInt8) : Bool := pcP (b.toNat : Int)
def hst8 (b : UInt8) : Bool := hstP (b.toNat : Int)
def hostQ (h : ByteArray) : Bool := decide (h.size ≤ 60) && allB hst8 h && !((splS 46 h).any fun x => eqB x ⟨#[]⟩)
def portB (n : Int) : ByteArray := if n = 80 then ⟨#[]⟩ else (⟨#[58]⟩ : ByteArray) ++ decT n
def qryB (q : ByteArray) (b : Bool) : ByteArray := if b = true then (⟨#[63]⟩ : ByteArray) ++ q else ⟨#[]⟩
def schB : ByteArray := ⟨#[104, 116, 116, 112, 58, 47, 47]⟩
def utxt (ho pa qu : ByteArray) (po : Int) (hq : Bool) : ByteArray := ((schB ++ ho) ++ portB po) ++ pa ++ qryB qu hq
def queQ (q : ByteArray) (b : Bool) : Bool := (b || eqB q ⟨#[]⟩) && decide (idxS 35 q < 0)
def urlQ (ho pa qu : ByteArray) (po : Int) (hq : Bool) : Bool := hostQ ho && withinB po 1 65535 && !eqB pa ⟨#[]⟩ && eqB (clnB pa) pa && queQ qu hq && targQ (utxt ho pa qu po hq)
theorem portB_size (n : Int) : (portB n).size ≤ 16 := by
  unfold portB
  have h := decT_size n
  split
  · show (0 : Nat) ≤ _; omega
  · rw [ByteArray.size_append]
    have e : (⟨#[58]⟩ : ByteArray).size = 1 := rfl
    omega
theorem qryB_size (q : ByteArray) (b : Bool) : (qryB q b).size ≤ q.size + 1 := by
  unfold qryB
  split
  · rw [ByteArray.size_append]
    have e : (⟨#[63]⟩ : ByteArray).size = 1 := rfl
    omega
  · show (0 : Nat) ≤ _; omega
theorem utxt_size (ho pa qu : ByteArray) (po : Int) (hq : Bool) : (utxt ho pa qu po hq).size = 7 + ho.size + (portB po).size + pa.size + (qryB qu hq).size := by
  unfold utxt
  rw [ByteArray.size_append, ByteArray.size_append, ByteArray.size_append, ByteArray.size_append]
  rfl
theorem all_app (p : UInt8 → Bool) (a b : ByteArray) : allB p (a ++ b) = (allB p a && allB p b) := by
  unfold allB
  rw [Go.Joins.data_append, List.all_append]
/-- The pieces have no sign that parts them. -/
theorem splS_all (c : UInt8) (p q : UInt8 → Bool) (hpq : ∀ b, b ≠ c → p b = q b) (hc : p c = true) : ∀ (n : Nat) (s : ByteArray), s.size ≤ n → allB p s = (splS c s).all (allB q)
  | n, s, hn => by
    rcases idxS_cases c s with h | ⟨i, h, hi⟩
    · rw [(splS_none h).2]
      have h0 := idxS_none h
      have e : allB p s = allB q s := by
        unfold allB
        rw [Bool.eq_iff_iff, List.all_eq_true, List.all_eq_true]
        have hx : ∀ b ∈ s.data.toList, p b = q b := by
          intro b hb
          obtain ⟨j, hj, rfl⟩ := List.mem_iff_getElem.1 hb
          have hj' : j < s.size := by rw [len_data] at hj; exact hj
          have := h0 j hj'
          unfold at8 at this
          rw [List.getD, List.getElem?_eq_getElem hj] at this
          exact hpq _ this
        constructor
        · intro hh b hb; rw [← hx b hb]; exact hh b hb
        · intro hh b hb; rw [hx b hb]; exact hh b hb
      rw [e]; simp
    · cases n with
      | zero => omega
      | succ n =>
        obtain ⟨g1, g2, g3⟩ := idxS_some h
        have e2 : (s.extract (i + 1) s.size).size = s.size - (i + 1) := by rw [ByteArray.size_extract]; omega
        have ih := splS_all c p q hpq hc n (s.extract (i + 1) s.size) (by omega)
        have e0 : (s.extract 0 i).size = i := by rw [ByteArray.size_extract]; omega
        have hn0 : idxS c (s.extract 0 i) = -1 := idxS_miss (fun j hj => by
          rw [at8_extS (by omega) (by omega), Nat.zero_add]; exact g3 j (by omega))
        have ih0 := splS_all c p q hpq hc n (s.extract 0 i) (by omega)
        rw [(splS_none hn0).2] at ih0
        rw [(splS_some h).2, List.all_cons, ← ih]
        have e1 : s.data.toList = (s.extract 0 i).data.toList ++ c :: (s.extract (i + 1) s.size).data.toList := by
          have t1 : (s.extract 0 i).data.toList = s.data.toList.take i := by rw [Lib.extract_data, List.drop_zero, Nat.sub_zero]
          have t2 : (s.extract (i + 1) s.size).data.toList = s.data.toList.drop (i + 1) := by
            rw [Lib.extract_data]; exact List.take_of_length_le (by rw [List.length_drop, len_data]; omega)
          rw [t1, t2, ← g2, ← drop_at8 g1, List.take_append_drop]
        have e3 : allB p s = (allB p (s.extract 0 i) && allB p (s.extract (i + 1) s.size)) := by
          unfold allB
          rw [e1, List.all_append, List.all_cons, hc, Bool.true_and]
        rw [e3, ih0]
        simp
theorem hst_pieces (s : ByteArray) : allB hst8 s = (splS 46 s).all (allB pc8) := by
  refine splS_all 46 hst8 pc8 ?_ rfl s.size s (Nat.le_refl _)
  intro b hb
  unfold hst8 pc8 hstP
  have : ((b.toNat : Int) == 46) = false := by
    rw [beq_eq_false_iff_ne]
    intro hh
    exact hb (UInt8.toNat_inj.1 (by have : b.toNat = 46 := by omega
                                    rw [this]; rfl))
  rw [this, Bool.or_false]
theorem pcP_vis {n : Int} (h : hstP n = true) : visP n = true := by
  unfold hstP pcP digP at h
  unfold visP
  simp at h ⊢
  omega
theorem allB_mono {p q : UInt8 → Bool} {s : ByteArray} (h : allB p s = true) (hpq : ∀ b, p b = true → q b = true) : allB q s = true := by
  unfold allB at *
  rw [List.all_eq_true] at *
  intro b hb
  exact hpq b (h b hb)
theorem host_vis {s : ByteArray} (h : allB hst8 s = true) : allB vis8 s = true := allB_mono h (fun b hb => pcP_vis hb)
end Go.Proofs.YthdgeepedofleaaGreatDoor
namespace Go.Proofs
open Go.Shelf
def Tryz.lays221_ren : Go.Shelf.Ren := ⟨fun | 221 => 263 | 268 => 293 | 138 => 294 | 143 => 64 | 195 => 307 | 197 => 308 | 218 => 309 | 219 => 94 | 260 => 316 | 217 => 114 | 225 => 115 | 224 => 116 | 267 => 117 | 266 => 155 | 314 => 156 | n => n, fun | 9 => 9 | 3 => 3 | 31 => 107 | 4 => 4 | 0 => 0 | 105 => 272 | 21 => 21 | 5 => 5 | 46 => 144 | 119 => 283 | 139 => 286 | 138 => 285 | 146 => 180 | 51 => 165 | n => n, fun | 1 => 0 | 3 => 4 | 4 => 5 | n => n⟩
theorem Tryz.lays221 : Go.Proofs.Lays.n221 Tryz.prog Tryz.lays221_ren := {
  mixed := by kernel_rfl
  f138 := Tryz.func294.trans (congrArg some (by kernel_rfl))
  f143 := Tryz.func64.trans (congrArg some (by kernel_rfl))
  f195 := Tryz.func307.trans (congrArg some (by kernel_rfl))
  f197 := Tryz.func308.trans (congrArg some (by kernel_rfl))
  f217 := Tryz.func114.trans (congrArg some (by kernel_rfl))
  f218 := Tryz.func309.trans (congrArg some (by kernel_rfl))
  f219 := Tryz.func94.trans (congrArg some (by kernel_rfl))
  f221 := Tryz.func263.trans (congrArg some (by kernel_rfl))
  f224 := Tryz.func116.trans (congrArg some (by kernel_rfl))
  f225 := Tryz.func115.trans (congrArg some (by kernel_rfl))
  f260 := Tryz.func316.trans (congrArg some (by kernel_rfl))
  f266 := Tryz.func155.trans (congrArg some (by kernel_rfl))
  f267 := Tryz.func117.trans (congrArg some (by kernel_rfl))
  f268 := Tryz.func293.trans (congrArg some (by kernel_rfl))
  f314 := Tryz.func156.trans (congrArg some (by kernel_rfl))
  t0 := Tryz.underlying0
  a0 := Tryz.isAgg0
  z0 := Tryz.sizeOf0
  v0 := Tryz.zeroValue0
  t3 := Tryz.underlying3
  a3 := Tryz.isAgg3
  z3 := Tryz.sizeOf3
  v3 := Tryz.zeroValue3
  t4 := Tryz.underlying4
  a4 := Tryz.isAgg4
  z4 := Tryz.sizeOf4
  v4 := Tryz.zeroValue4
  t5 := Tryz.underlying5
  a5 := Tryz.isAgg5
  z5 := Tryz.sizeOf5
  v5 := Tryz.zeroValue5
  t9 := Tryz.underlying9
  a9 := Tryz.isAgg9
  z9 := Tryz.sizeOf9
  v9 := Tryz.zeroValue9
  t21 := Tryz.underlying21
  a21 := Tryz.isAgg21
  z21 := Tryz.sizeOf21
  v21 := Tryz.zeroValue21
  t31 := Tryz.underlying107
  a31 := Tryz.isAgg107
  z31 := Tryz.sizeOf107
  v31 := Tryz.zeroValue107
  t46 := Tryz.underlying144
  a46 := Tryz.isAgg144
  z46 := Tryz.sizeOf144
  v46 := Tryz.zeroValue144
  t51 := Tryz.underlying165
  a51 := Tryz.isAgg165
  z51 := Tryz.sizeOf165
  v51 := Tryz.zeroValue165
  t105 := Tryz.underlying272
  a105 := Tryz.isAgg272
  z105 := Tryz.sizeOf272
  v105 := Tryz.zeroValue272
  t119 := Tryz.underlying283
  a119 := Tryz.isAgg283
  z119 := Tryz.sizeOf283
  t138 := Tryz.underlying285
  a138 := Tryz.isAgg285
  z138 := Tryz.sizeOf285
  v138 := Tryz.zeroValue285
  t139 := Tryz.underlying286
  a139 := Tryz.isAgg286
  z139 := Tryz.sizeOf286
  v139 := Tryz.zeroValue286
  t146 := Tryz.underlying180
  a146 := Tryz.isAgg180
  z146 := Tryz.sizeOf180
  v146 := Tryz.zeroValue180
  g1 := by kernel_rfl
  g3 := by kernel_rfl
  g4 := by kernel_rfl }
end Go.Proofs
namespace Go.Proofs
open Go.Shelf
def Tryz.lays143_ren : Go.Shelf.Ren := ⟨fun | 143 => 64 | 219 => 94 | 217 => 114 | 225 => 115 | 224 => 116 | 267 => 117 | 266 => 155 | 314 => 156 | n => n, fun | 9 => 9 | 3 => 3 | 4 => 4 | 5 => 5 | 46 => 144 | 146 => 180 | 51 => 165 | n => n, fun | 1 => 0 | n => n⟩
theorem Tryz.lays143 : Go.Proofs.Lays.n143 Tryz.prog Tryz.lays143_ren := {
  mixed := by kernel_rfl
  f143 := Tryz.func64.trans (congrArg some (by kernel_rfl))
  f217 := Tryz.func114.trans (congrArg some (by kernel_rfl))
  f219 := Tryz.func94.trans (congrArg some (by kernel_rfl))
  f224 := Tryz.func116.trans (congrArg some (by kernel_rfl))
  f225 := Tryz.func115.trans (congrArg some (by kernel_rfl))
  f266 := Tryz.func155.trans (congrArg some (by kernel_rfl))
  f267 := Tryz.func117.trans (congrArg some (by kernel_rfl))
  f314 := Tryz.func156.trans (congrArg some (by kernel_rfl))
  t3 := Tryz.underlying3
  a3 := Tryz.isAgg3
  z3 := Tryz.sizeOf3
  v3 := Tryz.zeroValue3
  t4 := Tryz.underlying4
  a4 := Tryz.isAgg4
  z4 := Tryz.sizeOf4
  v4 := Tryz.zeroValue4
  t5 := Tryz.underlying5
  a5 := Tryz.isAgg5
  z5 := Tryz.sizeOf5
  v5 := Tryz.zeroValue5
  t9 := Tryz.underlying9
  a9 := Tryz.isAgg9
  z9 := Tryz.sizeOf9
  v9 := Tryz.zeroValue9
  t46 := Tryz.underlying144
  a46 := Tryz.isAgg144
  z46 := Tryz.sizeOf144
  v46 := Tryz.zeroValue144
  t51 := Tryz.underlying165
  a51 := Tryz.isAgg165
  z51 := Tryz.sizeOf165
  v51 := Tryz.zeroValue165
  t146 := Tryz.underlying180
  a146 := Tryz.isAgg180
  z146 := Tryz.sizeOf180
  v146 := Tryz.zeroValue180
  g1 := by kernel_rfl }
end Go.Proofs
namespace Go.Proofs.YthdgeepedofleaaGreatDoor
set_option linter.unusedVariables false
set_option linter.unusedSimpArgs false
open Go.RowKit
theorem IndexS_any (s : ByteArray) (c : UInt8) (w : World) :
    Calls Tryz.prog 64 #[.string s, .string ⟨#[c]⟩] w fun e w' => e = .returned (.int .i64 (Lib.indexB s ⟨#[c]⟩)) ∧ w' = w := by
  rw [idxS_B]
  exact Any.strings_Index_one Tryz.lays143 s c w
theorem CountS_any (s : ByteArray) (c : UInt8) (w : World) :
    Calls Tryz.prog 294 #[.string s, .string ⟨#[c]⟩] w fun e w' => e = .returned (.int .i64 (Lib.countB s ⟨#[c]⟩)) ∧ w' = w := by
  refine (Any.strings_Count_one { Tryz.lays221 with } s c w).mono fun e w' ⟨he, hw⟩ => ⟨?_, hw⟩
  rw [he]
  show _ = Ending.returned (Value.int .i64 ((Lib.count s.data.toList [c] : Nat) : Int))
  rw [Lib.count_one]
  rfl
theorem genSplitS (s : ByteArray) (c : UInt8) (n : Int) (N : Nat) (w : World) (hs : s.size < 4294967281) (hn0 : n ≠ 0) (hn63 : n ≤ 9223372036854775807) (hN : (N : Int) = min (if n < 0 then (Lib.countB s ⟨#[c]⟩ : Int) + 1 else n) ((s.size : Int) + 1)) :
    Calls Tryz.prog 263 #[.string s, .string ⟨#[c]⟩, .int .i64 0, .int .i64 n] w fun e w' =>
      e = .returned (.slice (some ⟨w.heap.size, 0, none⟩) (Lib.splitB ⟨#[c]⟩ 0 (N - 1) s).length N) ∧ w' = w.alloc (.cells (Lib.cellsOf (Lib.splitB ⟨#[c]⟩ 0 (N - 1) s) N) 9) :=
  Any.strings_genSplit_core Tryz.lays221 (by kernel_rfl) s ⟨#[c]⟩ 0 n N w hs (Nat.le_refl _) (Nat.zero_le _) (fun x _ _ => IndexS_any x c _) (CountS_any s c w) hn0 hn63 hN
/-- A whole row of the call's own, as Split hands it back. -/
theorem buf_made (w : World) (l : List ByteArray) (hl : 1 ≤ l.length) (hm : l.length ≤ maxLen) : BufS w (w.alloc (.cells ((l.map Value.string).toArray) 9)) (.slice (some ⟨w.heap.size, 0, none⟩) l.length l.length) l := by
  refine ⟨below_a1 w _, by simp, .inr ⟨w.heap.size, l.length, (l.map Value.string).toArray, rfl, Nat.le_refl _, heap_alloc_new w _, Nat.le_refl _, hm, by simp, ?_⟩⟩
  simp only [Nat.mul_one]
  exact List.take_of_length_le (by simp)
set_option maxHeartbeats 1000000 in
theorem SplitS_any (s : ByteArray) (c : UInt8) (w : World) (hs : s.size ≤ 1048576) :
    Calls Tryz.prog 227 #[.string s, .string ⟨#[c]⟩] w fun e w' => ∃ v, e = .returned v ∧ BufS w w' v (splS c s) := by
  have h1 : 1 ≤ (⟨#[c]⟩ : ByteArray).size := Nat.le_refl _
  have hle := splS_cnt c s
  have hlen := splS_len c s
  have g := genSplitS s c (-1) (cntS c s + 1) w (by omega) (by decide) (by decide) (by rw [if_pos (by decide)]; unfold cntS at hle ⊢; omega)
  rw [Nat.add_sub_cancel] at g
  change Calls _ _ _ w fun e w' => e = .returned (.slice (some ⟨w.heap.size, 0, none⟩) (splS c s).length (cntS c s + 1)) ∧ w' = w.alloc (.cells (Lib.cellsOf (splS c s) (cntS c s + 1)) 9) at g
  rw [← hlen, Lib.cellsOf_full] at g
  have HB := hideB2 (buf_made w (splS c s) (by omega) (by unfold maxLen; omega))
  have HC := hideB2 g
  clear g
  generalize splS c s = L at *
  generalize hA : (L.map Value.string).toArray = arr at *
  clear hA
  generalize hq : L.length = q at *
  clear hq hlen hle
  go_enter Tryz.func227, Tryz.ntmps227
  go_wp2_with (go_at_call 263; refine HC.out.mono ?_; rintro e w' ⟨rfl, hw⟩; rw [hw])
  go_ret
  exact ⟨_, rfl, HB.out⟩
theorem Tryz.extraS : Builder.Extra Tryz.prog Tryz.lays156_ren := { sizeBuilder := by kernel_rfl, liesBuilder := by kernel_rfl, t5 := Tryz.underlying5, a5 := Tryz.isAgg5, z5 := Tryz.sizeOf5, v5 := Tryz.zeroValue5, infoByte := by kernel_rfl, cellsByte := by kernel_rfl, sizeByte := by kernel_rfl, neB5 := by decide }
theorem JoinS_any (w0 w : World) (v : Value) (c : UInt8) (l : List ByteArray) (hb : BufS w0 w v l) (hl : l.length ≤ 4194304) (hlen : (joinS c l).size ≤ 4194304) :
    Calls Tryz.prog 229 #[v, .string ⟨#[c]⟩] w fun e w' => e = .returned (.string (joinS c l)) ∧ Below w.heap.size w w' := by
  rcases hb.own.2 with ⟨h1, h2⟩ | ⟨g, cap, cur, h1, hg, hh, hc, _⟩
  · obtain rfl : l = [] := List.eq_nil_of_length_eq_zero h2
    subst h1
    refine (Any.strings_Join_none Tryz.lays156 Tryz.extraS none 0 ⟨#[c]⟩ w).mono ?_
    rintro e w' ⟨rfl, rfl⟩
    exact ⟨rfl, Below.refl _ _⟩
  · have hlt := (hb.own.lt g (by rw [h1]; rfl)).2
    have hcell : ∀ (j : Nat) x, l[j]? = some x → w.cell? ⟨g, 0 + j, none⟩ = some (.string x) := by
      intro j x hx
      have := hb.own.cells (g := g) (by rw [h1]; rfl) j (.string x) (by simp [hx])
      rwa [Addr.add_lit] at this
    subst h1
    have := Any.strings_Join Tryz.lays156 Tryz.extraS g 0 cap l ⟨#[c]⟩ w hcell hlt (by omega) hc (by
      have e : (joinS c l).size = (Lib.join (l.map (·.data.toList)) [c]).length := by show (Lib.join (l.map (·.data.toList)) [c]).toArray.size = _; simp
      show (Lib.join (l.map (·.data.toList)) [c]).length ≤ _
      omega)
    refine this.mono ?_
    rintro e w' ⟨rfl, hb'⟩
    exact ⟨rfl, hb'⟩
theorem BufS.shrink {w0 w : World} {g cap n : Nat} {l : List ByteArray} (h : BufS w0 w (.slice (some ⟨g, 0, none⟩) n cap) l) (m : Nat) (hm : m ≤ l.length) : BufS w0 w (.slice (some ⟨g, 0, none⟩) m cap) (l.take m) := by
  refine ⟨h.below, by simp <;> omega, .inr ?_⟩
  rcases h.own.2 with ⟨h1, _⟩ | ⟨g', cap', cur, h1, hg, hh, hc, hx, hcs, ht⟩
  · cases h1
  · injection h1 with e1 e2 e3
    injection e1 with e1
    injection e1 with e1
    subst e1 e3
    refine ⟨g, cap, cur, by simp <;> omega, hg, hh, by simp <;> omega, hx, hcs, ?_⟩
    have := congrArg (List.take m) ht
    rw [List.take_take, ← List.map_take] at this
    rw [← this]
    congr 1
    simp <;> omega
end Go.Proofs.YthdgeepedofleaaGreatDoor
