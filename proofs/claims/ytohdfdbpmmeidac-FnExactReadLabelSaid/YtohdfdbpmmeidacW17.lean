/-
  The walks over chapter 1: spec.ReadBase32.
-/
import Derived.Test.YtohdfdbpmmeidacW16
import Derived.Test.YtohdfdbpmmeidacM12
import Derived.OwnWalk
import Derived.Laws.OwnMore
namespace Go.Proofs.Ytohdfdbpmmeidac
set_option linter.unusedVariables false
set_option linter.unusedSimpArgs false
open Go.RowKit
set_option maxHeartbeats 1000000 in
theorem l1five_any (n : Int) (w : World) (h0 : 0 ≤ n) (h255 : n ≤ 255) :
    Calls Try.prog 46 #[.int .u8 n] w fun e w' => e = .returned (.int .i64 (val5 n)) ∧ w' = w := by
  by_cases a1 : 65 ≤ n
  · by_cases a2 : n ≤ 90
    · rw [val5_up a1 a2]
      go_enter Try.func46, Try.ntmps46
      go_wp2
      go_ret
      exact ⟨rfl, rfl⟩
    · rw [val5_no (by omega) (by omega)]
      have b1 : 50 ≤ n := by omega
      have b2 : ¬ n ≤ 55 := by omega
      go_enter Try.func46, Try.ntmps46
      go_wp2
      go_ret
      exact ⟨rfl, rfl⟩
  · by_cases b1 : 50 ≤ n
    · by_cases b2 : n ≤ 55
      · rw [val5_dig b1 b2]
        have e1 : n - 50 + 26 = n - 24 := by omega
        go_enter Try.func46, Try.ntmps46
        go_wp2
        go_ret
        exact ⟨ret_int (by omega), rfl⟩
      · rw [val5_no (by omega) (by omega)]
        go_enter Try.func46, Try.ntmps46
        go_wp2
        go_ret
        exact ⟨rfl, rfl⟩
    · rw [val5_no (by omega) (by omega)]
      go_enter Try.func46, Try.ntmps46
      go_wp2
      go_ret
      exact ⟨rfl, rfl⟩
theorem row_made {w w' : World} {n : Nat} (h : w'.ownsRow w.heap.size 5 1 (.slice (some ⟨w.heap.size, 0, none⟩) n n) n (List.replicate n (.int .u8 0))) : Row8 w' w.heap.size (List.replicate n 0) := by
  refine ⟨fun j hj => ?_, fun j hj => h.frozenAt j, (h.lt w.heap.size rfl).2⟩
  rw [List.length_replicate] at hj
  have := h.cells (g := w.heap.size) rfl j (.int .u8 0) (by simp [hj])
  rw [Addr.add_lit, Nat.zero_add] at this
  rw [this]; simp [List.getD, hj]
theorem wp_mk {ops : Array Oper} {rest : List Oper} {o : Oper} {a : Act} {Q : Exit → Act → World → Prop} {w : World} (hg : o.guard = none) (l c : Operand) (hop : o.op = Op.makeSlice 37 l c)
    (n : Nat) (L C : Int) (hl : a.eval l = .int .i64 L) (hc : a.eval c = .int .i64 C) (hL : L = (n : Int)) (hC : C = (n : Int)) (hn : n ≤ 1000000)
    (hK : ∀ w', Row8 w' w.heap.size (List.replicate n 0) → Below w.heap.size w w' → wpList Try.prog ops Q rest (a.put o.dst (.slice (some ⟨w.heap.size, 0, none⟩) n n)) w') :
    wpList Try.prog ops Q (o :: rest) a w := by
  obtain ⟨i0, hi, hz0, hz1, hz2⟩ := info_parts Try.infoU8
  refine wpList_make_full w hg l c 37 hop w.heap.size 5 i0 (.int .u8 0) 1 Try.underlying37 hi hz0 hz1 .i64 .i64 L C n hl hc hL hC (by rw [hz2]; omega) (by unfold maxLen; omega) (Nat.le_refl _) ?_
  intro w' hown hgr
  refine hK w' (row_made ?_) ⟨hgr.os, hgr.tape, hgr.output, hgr.size, fun k hk => hgr.block k hk (by simp)⟩
  have e : (madeCells (Value.int .u8 0).cells (n * 1)).toList = List.replicate n (.int .u8 0) := by
    rw [Nat.mul_one]; exact toList_madeCells_one _ _
  rw [e] at hown
  exact hown
theorem Row8.drawn {w : World} {b : Nat} {xs : List Int} (h : Row8 w b xs) : Row8 w.drew b xs := ⟨fun j hj => h.cell j hj, fun j hj => h.free j hj, h.lt⟩
theorem Row8.laterB {w w' : World} {b : Nat} {xs : List Int} (h : Row8 w b xs) (hb : Below w.heap.size w w') : Row8 w' b xs :=
  ⟨fun j hj => cell_later hb (h.cell j hj), fun j hj => (hb.frozen (p := ⟨b, j, none⟩) h.lt).trans (h.free j hj), Nat.lt_of_lt_of_le h.lt hb.size⟩
theorem hideB {p : Prop} (h : p) : Hid p := h
def pb (s : ByteArray) (c i : Nat) : Nat := accL s (8 * i) (min (c - 8 * i) 8) * 2 ^ (8 - min (c - 8 * i) 8)
def partL (s : ByteArray) (c m : Nat) : List Int := (List.range m).map fun i => ((pb s c i : Nat) : Int)
theorem partL_len (s : ByteArray) (c m : Nat) : (partL s c m).length = m := by simp [partL]
theorem partL_at {s : ByteArray} {c m i : Nat} (h : i < m) : (partL s c m).getD i 0 = ((pb s c i : Nat) : Int) := by simp [partL, List.getD, h]
theorem pb_lt (s : ByteArray) (c i : Nat) : pb s c i < 256 := by
  unfold pb
  have h := accL_lt s (8 * i) (min (c - 8 * i) 8)
  have e : 2 ^ (min (c - 8 * i) 8) * 2 ^ (8 - min (c - 8 * i) 8) = 256 := by rw [← Nat.pow_add, show min (c - 8 * i) 8 + (8 - min (c - 8 * i) 8) = 8 from by omega]
  rw [← e]
  exact Nat.mul_lt_mul_of_pos_right h (Nat.two_pow_pos _)
theorem pb_other {s : ByteArray} {c i : Nat} (h : i ≠ c / 8) : pb s (c + 1) i = pb s c i := by
  unfold pb
  have : min (c + 1 - 8 * i) 8 = min (c - 8 * i) 8 := by omega
  rw [this]
theorem pb_step (s : ByteArray) (i q : Nat) (hq : q < 8) : pb s (8 * i + q + 1) i = pb s (8 * i + q) i + bit5 s (8 * i + q) * 2 ^ (7 - q) := by
  unfold pb
  rw [show min (8 * i + q + 1 - 8 * i) 8 = q + 1 from by omega, show min (8 * i + q - 8 * i) 8 = q from by omega, accL, show 8 - q = (7 - q) + 1 from by omega, show 8 - (q + 1) = 7 - q from by omega, Nat.pow_succ, Nat.add_mul]
  rw [Nat.mul_comm 2 (accL s (8 * i) q), Nat.mul_assoc, Nat.mul_comm 2 (2 ^ (7 - q))]
theorem part_start (s : ByteArray) (m : Nat) : partL s 0 m = List.replicate m 0 := by
  apply List.ext_getElem
  · simp [partL]
  · intro i h1 h2
    simp [partL, pb, accL]
theorem part_same {s : ByteArray} {c m : Nat} (h : m ≤ c / 8 ∨ bit5 s c = 0) : partL s (c + 1) m = partL s c m := by
  unfold partL
  apply List.map_congr_left
  intro i hi
  rw [List.mem_range] at hi
  by_cases e : i = c / 8
  · rcases h with h | h
    · omega
    · obtain ⟨q, hq, hc⟩ : ∃ q, q < 8 ∧ c = 8 * i + q := ⟨c % 8, by omega, by omega⟩
      rw [hc, pb_step s i q hq, ← hc, h]; simp
  · rw [pb_other e]
theorem part_set {s : ByteArray} {m i q : Nat} (hi : i < m) (hq : q < 8) (hb : bit5 s (8 * i + q) = 1) : partL s (8 * i + q + 1) m = (partL s (8 * i + q) m).set i (((pb s (8 * i + q) i : Nat) : Int) + 2 ^ (7 - q)) := by
  apply List.ext_getElem
  · simp [partL]
  · intro j h1 h2
    simp only [partL, List.getElem_map, List.getElem_range, List.getElem_set]
    by_cases e : i = j
    · subst e
      rw [if_pos rfl, pb_step s i q hq, hb]; simp
    · rw [if_neg e, pb_other (by omega)]
theorem part_end (s : ByteArray) (m c : Nat) (h : 8 * m ≤ c) : strOfNums (partL s c m) = ⟨(out5 s m).toArray⟩ := by
  have : (partL s c m).map (fun z => UInt8.ofNat z.toNat) = out5 s m := by
    unfold partL out5
    rw [List.map_map]
    apply List.map_congr_left
    intro i hi
    rw [List.mem_range] at hi
    show UInt8.ofNat (Int.toNat ((pb s c i : Nat) : Int)) = _
    rw [Int.toNat_natCast]
    unfold pb
    rw [show min (c - 8 * i) 8 = 8 from by omega]
    simp
  unfold strOfNums
  rw [this]
set_option maxHeartbeats 2000000 in
theorem sReadBase32_any (s : ByteArray) (w : World) (hs : s.size ≤ maxLen) :
    Calls Try.prog 34 #[.string s] w fun e w' => e = .returned (.tuple #[.string (rbB s), .bool (rbOk s)]) ∧ Below w.heap.size w w' := by
  have hs' := hs
  unfold maxLen at hs'
  by_cases hbig : (6400 : Int) < (s.size : Int)
  · have hr := rb_big (s := s) (by omega)
    rw [rb_no hr, hr]
    go_enter Try.func34, Try.ntmps34
    go_wp2
    go_ret2
    exact ⟨rfl, Below.refl _ _⟩
  · obtain ⟨m, hm, hm2⟩ : ∃ m : Nat, (s.size : Int) * 5 / 8 = (m : Int) ∧ m = 5 * s.size / 8 := ⟨5 * s.size / 8, by omega, rfl⟩
    have hmb : m ≤ 4000 := by omega
    have HM2 : Hid (m = 5 * s.size / 8) := hm2
    clear hm2
    go_enter Try.func34, Try.ntmps34
    go_wp2_with (refine wp_mk rfl _ _ rfl m _ _ rfl rfl ?_ ?_ (by omega) ?_; exact hm; exact hm; intro w1 hrow0 hb1; have hrow : Row8 w1 w.heap.size (partL s 0 m) := by rw [part_start s m]; exact hrow0)
    have hrow : Hid (Row8 w1 w.heap.size (partL s 0 m)) := hrow
    clear hrow0 hm
    go_loopw [5] (fun i wr => ∃ k : Nat, k ≤ s.size ∧ i = .int .i64 (k : Int) ∧ (∀ j, j < k → isL (at8 s j) = true) ∧ Row8 wr w.heap.size (partL s (5 * k) m) ∧ Below w.heap.size w wr) (fun i _ => s.size - (intOf i).toNat)
    case atStart => exact ⟨0, Nat.zero_le _, rfl, fun j hj => by omega, hrow.out, hb1⟩
    case round =>
      obtain ⟨k, hk, rfl, hall, hrw, hbw⟩ := hrel
      have HA : Hid (∀ j, j < k → isL (at8 s j) = true) := hall
      clear hall hrow hb1
      by_cases hlt : k < s.size
      · have hlo := u8_lo s[k]
        have hhi := u8_hi s[k]
        have hat := at8_eq s k hlt
        cases hL : isL (at8 s k)
        · have hr := rb_letter hlt hL
          have hv : val5 (s[k].toNat : Int) = -1 := by
            rw [hat]
            unfold isL at hL
            rw [decide_eq_false_iff_not] at hL
            unfold val5 at *
            split at hL
            · omega
            · split at hL
              · omega
              · rename_i h1 h2; rw [if_neg h1, if_neg h2]
          have HR : Hid (rbB s = ⟨#[]⟩ ∧ rbOk s = false) := ⟨rb_no hr, hr⟩
          clear hat hL hr hrw
          go_wp2_with (go_at_call 46; refine (l1five_any _ _ hlo hhi).mono ?_; rintro e w' ⟨rfl, rfl⟩)
          go_ret2
          exact ⟨ret_sb HR.out.1 HR.out.2, hbw⟩
        · have hv : val5 (s[k].toNat : Int) = (v5 (at8 s k) : Int) := by rw [hat]; exact v5_val hL
          have hv32 := v5_lt (at8 s k)
          have HB : Hid (∀ j, j < 5 → bits .and .i64 ((v5 (at8 s k) : Int) / 2 ^ (4 - j)) 1 = ((bit5 s (5 * k + j) : Nat) : Int)) := by
            intro j hj
            rw [bit_eq _ _ (by omega), bit5_at s k j hj]
          have HA2 : Hid (∀ j, j < k + 1 → isL (at8 s j) = true) := by
            intro j hj
            rcases Nat.lt_or_ge j k with h' | h'
            · exact HA.out j h'
            · rw [show j = k from by omega]; exact hL
          have hrw0 : Hid (Row8 wr w.heap.size (partL s (5 * k) m)) := hrw
          clear hL hat hrw
          generalize v5 (at8 s k) = V at *
          go_wp2_with (go_at_call 46; refine (l1five_any _ _ hlo hhi).mono ?_; rintro e w' ⟨rfl, rfl⟩)
          go_loopw [7] (fun jv w2 => ∃ j : Nat, j ≤ 5 ∧ jv = .int .i64 (j : Int) ∧ Row8 w2 w.heap.size (partL s (5 * k + j) m) ∧ Below w.heap.size w w2) (fun jv _ => 5 - (intOf jv).toNat)
          case atStart => exact ⟨0, by omega, rfl, hrw0.out, hbw⟩
          case round =>
            clear hrw0 hbw
            obtain ⟨j, hj, rfl, hrj, hbj⟩ := hrel
            by_cases hj5 : j < 5
            · have hjI : (j : Int) < 5 := by omega
              obtain ⟨i, q, hiq, hq⟩ : ∃ i q : Nat, 5 * k + j = 8 * i + q ∧ q < 8 := ⟨(5 * k + j) / 8, (5 * k + j) % 8, by omega, by omega⟩
              have e1 : (5 * (k : Int) + (j : Int)) / 8 = (i : Int) := by omega
              have e2 : (5 * (k : Int) + (j : Int)) % 8 = (q : Int) := by omega
              have hb := HB.out j hj5
              have HIQ : Hid (5 * k + j = 8 * i + q) := hiq
              have HRJ : Hid (Row8 wr w.heap.size (partL s (5 * k + j) m)) := hrj
              clear hiq
              by_cases him : i < m
              · have himI : (i : Int) < (m : Int) := by omega
                by_cases hb1 : bit5 s (5 * k + j) = 1
                · rw [hb1] at hb
                  have c1 := hrj.cell i (by rw [partL_len]; exact him)
                  have f1 := hrj.free i (by rw [partL_len]; exact him)
                  rw [partL_at him] at c1
                  have hp := pb_lt s (5 * k + j) i
                  have hp2 := pb_lt s (5 * k + j + 1) i
                  have HS : Hid (partL s (5 * k + j + 1) m = (partL s (5 * k + j) m).set i (((pb s (5 * k + j) i : Nat) : Int) + 2 ^ (7 - q))) := by
                    show _ = _
                    rw [HIQ.out]; exact part_set him hq (by rw [← HIQ.out]; exact hb1)
                  rw [HIQ.out, pb_step s i q hq, ← HIQ.out, hb1, Nat.one_mul] at hp2
                  clear hrj hb1
                  generalize pb s (5 * k + j) i = p at *
                  have HP2 : Hid (p + 2 ^ (7 - q) < 256) := hp2
                  clear hp2
                  go_wp2
                  go_region
                  go_wp2
                  have HV : Hid (((p : Int) + 2 ^ (7 - q)) % 256 = (p : Int) + 2 ^ (7 - q)) := by
                    show _ = _
                    have e : (2 : Int) ^ (7 - q) = ((2 ^ (7 - q) : Nat) : Int) := by simp
                    rw [e]
                    have hh := HP2.out
                    generalize 2 ^ (7 - q) = Z at *
                    omega
                  go_round
                  case rel => exact ⟨j + 1, by omega, by go_num, by show Row8 _ _ (partL s (5 * k + j + 1) m); rw [HS.out, HV.out]; exact Row8.drawn (HRJ.out.set i _ (by rw [partL_len]; exact him)), (hbj.setCell (p := ⟨_, i, none⟩) (Nat.le_refl _) _).drew⟩
                  case measure => simp [intOf] <;> omega
                · have hb0 : bit5 s (5 * k + j) = 0 := by have := bit5_lt s (5 * k + j); omega
                  rw [hb0] at hb
                  have HS : Hid (partL s (5 * k + j + 1) m = partL s (5 * k + j) m) := part_same (Or.inr hb0)
                  clear hrj hb1 hb0
                  go_wp2
                  go_round
                  case rel => exact ⟨j + 1, by omega, by go_num, by show Row8 _ _ (partL s (5 * k + j + 1) m); rw [HS.out]; exact HRJ.out, hbj⟩
                  case measure => simp [intOf] <;> omega
              · have himI : ¬ (i : Int) < (m : Int) := by omega
                have HS : Hid (partL s (5 * k + j + 1) m = partL s (5 * k + j) m) := part_same (Or.inl (by have := HIQ.out; omega))
                clear hrj hb
                go_wp2
                go_round
                case rel => exact ⟨j + 1, by omega, by go_num, by show Row8 _ _ (partL s (5 * k + j + 1) m); rw [HS.out]; exact HRJ.out, hbj⟩
                case measure => simp [intOf] <;> omega
            · have hjI : ¬ (j : Int) < 5 := by omega
              obtain rfl : j = 5 := by omega
              have HRJ : Hid (Row8 _ w.heap.size (partL s (5 * k + 5) m)) := hrj
              clear hrj
              go_wp2
              go_round
              case rel => exact ⟨k + 1, by omega, by go_num, HA2.out, HRJ.out, hbj⟩
              case measure => simp [intOf] <;> omega
      · obtain rfl : k = s.size := by omega
        have hrl : ∀ W, Below _ _ W → _ := fun W hW => (Row8.laterB hrw hW).text (P := Try.prog) 37 5 9 m m (partL_len s _ m) Try.underlying37 Try.underlying5 Try.underlying9
        have kb := hrw.text (P := Try.prog) 37 5 9 m m (partL_len s _ m) Try.underlying37 Try.underlying5 Try.underlying9
        have HM3 := HM2.out
        rw [part_end s m (5 * s.size) (by omega)] at kb hrl
        have hrsz : (ByteArray.mk (out5 s m).toArray).size = m := by show (out5 s m).toArray.size = _; simp [out5_len]
        have mr : (ByteArray.mk (out5 s m).toArray).size ≤ maxLen := by unfold maxLen; omega
        have hAB : (rbOk s = true ∧ rbB s = ⟨(out5 s m).toArray⟩ ∧ b32B ⟨(out5 s m).toArray⟩ = s) ∨ (rbOk s = false ∧ rbB s = ⟨#[]⟩ ∧ b32B ⟨(out5 s m).toArray⟩ ≠ s) := by
          cases hk' : rbOk s
          · right
            refine ⟨rfl, rb_no hk', fun hh => ?_⟩
            have := (rb_b32 (s := ⟨(out5 s m).toArray⟩) (by omega)).1
            rw [hh, hk'] at this
            cases this
          · left
            have hb : rbB s = ⟨(out5 s m).toArray⟩ := by unfold rbB; rw [if_pos hk', ← HM3]
            exact ⟨rfl, hb, by rw [← hb]; exact b32_rb hk'⟩
        clear HM3 hrsz hrw
        generalize ByteArray.mk (out5 s m).toArray = r at *
        have HL := hideB hrl
        clear hrl
        go_wp2_with fail
        refine (sBase32_any r _ mr).mono ?_
        rintro e w5 ⟨rfl, hb5⟩
        have b5 := hbw.trans (hb5.mono hbw.size)
        rcases hAB with ⟨h1, h2, h3⟩ | ⟨h1, h2, h3⟩
        · rw [h3]
          have hnt : (s.toList != s.toList) = false := by simp
          have HR : Hid (rbB s = r ∧ rbOk s = true) := ⟨h2, h1⟩
          have kb5 := HL.out w5 hb5
          clear h1 h2 h3 hb5 kb
          go_wp2
          go_ret2
          exact ⟨ret_sb HR.out.1 HR.out.2, b5⟩
        · have hnt : ((b32B r).toList != s.toList) = true := by
            rw [bne_iff_ne]
            intro hh
            apply h3
            exact eqB_iff.1 (by unfold eqB; rw [hh]; simp)
          have hnt2 : ((b32B r).toList == s.toList) = false := by rw [beq_eq_false_iff_ne]; exact bne_iff_ne.1 hnt
          have HR : Hid (rbB s = ⟨#[]⟩ ∧ rbOk s = false) := ⟨h2, h1⟩
          clear h1 h2 hb5 kb HL hnt
          generalize b32B r = x at *
          cases hq : (x.toList == s.toList)
          · clear hnt2 h3
            go_wp2
            go_ret2
            exact ⟨ret_sb HR.out.1 HR.out.2, b5⟩
          · rw [hq] at hnt2; cases hnt2
end Go.Proofs.Ytohdfdbpmmeidac
