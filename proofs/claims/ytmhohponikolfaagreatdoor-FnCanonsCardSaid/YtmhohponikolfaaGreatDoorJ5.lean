/-
  The walks over chapter 1: ReadDec. · Blocks of two cells, results in cells: of no chapter. · Chapter 7: an address read; lists, and the program's parts. · What the fixed addresses of the laws give. No Go in sight. · What every frame of this seat shares. · An address that comes in by value, opened; copies and sizes in the laws. · Chapter 7: an address read; the program's side.
-/
import Derived.Test.YtmhohponikolfaaGreatDoorJ1
import Derived.Test.YtmhohponikolfaaGreatDoorJ2
import Derived.OwnWalk
import Derived.Laws.ResultCell
import Derived.Laws.OwnMore
import Derived.Deep.RegionWith
import Derived.Test.YtmhohponikolfaaGreatDoorJ4
import Derived.Test.YtmhohponikolfaaGreatDoorJ0
import Derived.Test.YtmhohponikolfaaGreatDoorJ3
import Derived.Deep.DeepCutAuto
import Derived.Test.YtmhohponikolfaaGreatDoorRows
import Derived.WalkKit
import Derived.ProofKit
import Derived.OpenShut
import Derived.ShutString
import Derived.ChangeOld
import Derived.Below
import Derived.Lib.SmallJoins
import Derived.Deep.SlicePairs
namespace Go.Proofs.YtmhohponikolfaaGreatDoor
set_option linter.unusedVariables false
set_option linter.unusedSimpArgs false
open Go.RowKit

def rdecN (s : ByteArray) : Int := ((rdec s).getD 0 : Nat)
def rdecOk (s : ByteArray) : Bool := (rdec s).isSome
theorem rdec_none {s : ByteArray} (h : rdec s = none) : rdecN s = 0 ∧ rdecOk s = false := by simp [rdecN, rdecOk, h]
theorem rdec_some {s : ByteArray} {u : Nat} (h : rdec s = some u) : rdecN s = (u : Int) ∧ rdecOk s = true := by simp [rdecN, rdecOk, h]
theorem ret_ib {k : IntKind} {n m : Int} {a b : Bool} (h : m = n) (h' : b = a) : Ending.returned (.tuple #[.int k n, .bool a]) = .returned (.tuple #[.int k m, .bool b]) := by rw [h, h']

set_option maxHeartbeats 1000000 in
theorem sReadDec_any (s : ByteArray) (w : World) (hs : s.size ≤ maxLen) :
    Calls Tryz.prog 61 #[.string s] w fun e w' => e = .returned (.tuple #[.int .i64 (rdecN s), .bool (rdecOk s)]) ∧ Below w.heap.size w w' := by
  unfold maxLen at hs
  by_cases h0 : s.size = 0
  · have hr := rdec_none (rdec_size s (Or.inl h0))
    have hne : ((s.size : Int) == 0) = true := by rw [beq_iff_eq]; omega
    rw [hr.1, hr.2]
    clear hr
    go_enter Tryz.func61, Tryz.ntmps61
    go_wp2
    go_ret2
    exact ⟨rfl, Below.refl _ _⟩
  · have hne2 : ((s.size : Int) == 0) = false := by rw [Bool.eq_false_iff, ne_eq, beq_iff_eq]; omega
    by_cases hbig : (15 : Int) < (s.size : Int)
    · have hr := rdec_none (rdec_size s (Or.inr (by omega)))
      rw [hr.1, hr.2]
      clear hr
      go_enter Tryz.func61, Tryz.ntmps61
      go_wp2
      go_ret2
      exact ⟨rfl, Below.refl _ _⟩
    · go_enter Tryz.func61, Tryz.ntmps61
      go_wp2
      clear hne2
      go_loop [4, 5] (fun n i => ∃ k : Nat, k ≤ s.size ∧ i = .int .i64 k ∧ n = .int .i64 (valL (s.data.toList.take k) : Nat) ∧ allDig (s.data.toList.take k) = true) (fun _ i => s.size - (intOf i).toNat)
      case atStart => exact ⟨0, Nat.zero_le _, rfl, rfl, rfl⟩
      case round =>
        obtain ⟨k, hk, rfl, rfl, hall⟩ := hrel
        have Hall : Hid (allDig (s.data.toList.take k) = true) := hall
        have hvl : valL (s.data.toList.take k) < 1000000000000000 := by
          have h1 := valL_lt _ hall
          have h3 : 10 ^ (s.data.toList.take k).length ≤ 10 ^ 15 := Nat.pow_le_pow_right (by decide) (by simp; omega)
          have h4 : (10 : Nat) ^ 15 = 1000000000000000 := by decide
          omega
        clear hall
        by_cases hlt : k < s.size
        · cases hg0 : dig8 (at8 s k)
          · have hg : digP (s[k].toNat : Int) = false := by rw [at8_eq s k hlt]; exact hg0
            have hfin : Hid (rdecN s = 0 ∧ rdecOk s = false) := rdec_none (rdec_nodig s k hlt hg0)
            clear hg0
            go_wp2_with (go_at_call 103; refine (l1digit_any _ _).mono ?_; rintro e w' ⟨rfl, rfl⟩)
            go_ret2
            exact ⟨ret_ib hfin.out.1 hfin.out.2, Below.refl _ _⟩
          · have hg : digP (s[k].toNat : Int) = true := by rw [at8_eq s k hlt]; exact hg0
            have hb := (dig8_iff _).1 hg0
            have hval : Hid (valL (s.data.toList.take (k + 1)) = valL (s.data.toList.take k) * 10 + (s[k].toNat - 48)) := by
              show _ = _
              rw [allDig_take_succ s k hlt, valL_snoc, at8_eq s k hlt]
            have Hall2 : Hid (allDig (s.data.toList.take (k + 1)) = true) := by
              show _ = _
              rw [allDig_take_succ s k hlt]; exact allDig_snoc _ _ Hall.out hg0
            have hb1 : 48 ≤ s[k].toNat := by rw [at8_eq s k hlt]; exact hb.1
            have hb2 : s[k].toNat ≤ 57 := by rw [at8_eq s k hlt]; exact hb.2
            clear hg0 hb
            generalize valL (s.data.toList.take k) = v at *
            go_wp2_with (go_at_call 103; refine (l1digit_any _ _).mono ?_; rintro e w' ⟨rfl, rfl⟩)
            go_round
            case rel => exact ⟨k + 1, by omega, by go_num, congrArg (Value.int .i64) (by rw [hval.out]; omega), Hall2.out⟩
            case measure => simp [intOf]; omega
        · obtain rfl : k = s.size := by omega
          have ht : s.data.toList.take s.size = s.data.toList := List.take_of_length_le (by rw [len_data]; exact Nat.le_refl _)
          rw [ht] at Hall hvl ⊢
          have hd := decDigits_len (valL s.data.toList) (by omega)
          have hfin : Hid ((eqB (decB (valL s.data.toList)) s = true ∧ rdecN s = (valL s.data.toList : Nat) ∧ rdecOk s = true) ∨ (eqB (decB (valL s.data.toList)) s = false ∧ rdecN s = 0 ∧ rdecOk s = false)) := by
            show _ ∨ _
            by_cases he : Lib.decDigits (valL s.data.toList) = s.data.toList
            · left
              exact ⟨eqB_iff.2 (bytes_ext he), rdec_some (rdec_yes s (by omega) (by omega) Hall.out he)⟩
            · right
              refine ⟨Bool.eq_false_iff.2 (fun hh => he ?_), rdec_none (rdec_ne s he)⟩
              exact (decB_list _).symm.trans (congrArg (fun x : ByteArray => x.data.toList) (eqB_iff.1 hh))
          clear Hall ht hd
          generalize valL s.data.toList = v at *
          rcases hfin.out with ⟨he, hn, ho⟩ | ⟨he, hn, ho⟩
          all_goals
            have HF : Hid (rdecN s = _ ∧ rdecOk s = _) := ⟨hn, ho⟩
            clear hn ho hfin
            unfold eqB at he
            go_wp2_with (go_at_call 104; refine (sDecText_nat _ _ (by omega)).mono ?_; rintro e w1 ⟨rfl, hb⟩)
            go_ret2
            exact ⟨ret_ib HF.out.1 HF.out.2, hb⟩
set_option maxHeartbeats 1000000 in
theorem ReadDec_any (s : ByteArray) (w : World) (hs : s.size ≤ maxLen) :
    Calls Tryz.prog 90 #[.string s] w fun e w' => e = .returned (.tuple #[.int .i64 (rdecN s), .bool (rdecOk s)]) ∧ w' = w := by
  unfold maxLen at hs
  by_cases h0 : s.size = 0
  · have hr := rdec_none (rdec_size s (Or.inl h0))
    have hne : s.toList.isEmpty = true := by rw [ByteArray.toList_eq, List.isEmpty_iff, ← List.length_eq_zero_iff, Array.length_toList]; exact h0
    rw [hr.1, hr.2]
    clear hr
    go_enter Tryz.func90, Tryz.ntmps90
    go_wp2
    go_ret2
    exact ⟨rfl, rfl⟩
  · have hne : s.toList.isEmpty = false := by
      rw [ByteArray.toList_eq, List.isEmpty_eq_false_iff]
      intro hh
      apply h0
      rw [← len_data, hh]; rfl
    have hpos : 0 < s.size := by omega
    by_cases hz : (at8 s 0).toNat = 48 ∧ s.data.toList ≠ [48]
    · have hr := rdec_none (rdec_zero s hpos hz.1 hz.2)
      have hq1 : ((s[0].toNat : Int) == 48) = true := by rw [beq_iff_eq, at8_eq s 0 hpos]; omega
      have hq2 : (s.toList == [48]) = false := by rw [ByteArray.toList_eq, beq_eq_false_iff_ne]; exact hz.2
      rw [hr.1, hr.2]
      clear hr hz
      go_enter Tryz.func90, Tryz.ntmps90
      go_wp2
      go_ret2
      exact ⟨rfl, rfl⟩
    · have hz' : Hid ((at8 s 0).toNat ≠ 48 ∨ s.data.toList = [48]) := by
        show _ ∨ _
        by_cases h1 : (at8 s 0).toNat = 48
        · right; exact Classical.byContradiction fun h2 => hz ⟨h1, h2⟩
        · left; exact h1
      have hway : (((s[0].toNat : Int) == 48) = false) ∨ (((s[0].toNat : Int) == 48) = true ∧ (s.toList == [48]) = true) := by
        rcases hz'.out with h | h
        · left; rw [beq_eq_false_iff_ne, at8_eq s 0 hpos]; omega
        · by_cases h1 : ((s[0].toNat : Int) == 48) = true
          · right; exact ⟨h1, by rw [ByteArray.toList_eq, h]; rfl⟩
          · left; simpa using h1
      clear hz
      rcases hway with hq1 | ⟨hq1, hq2⟩
      all_goals
        go_enter Tryz.func90, Tryz.ntmps90
        go_wp2
        clear hne
        go_loop [4, 19] (fun n i => ∃ k : Nat, k ≤ s.size ∧ i = .int .i64 k ∧ n = .int .i64 (valL (s.data.toList.take k) : Nat) ∧ allDig (s.data.toList.take k) = true ∧ valL (s.data.toList.take k) ≤ 999999999999999) (fun _ i => s.size - (intOf i).toNat)
        case atStart => exact ⟨0, Nat.zero_le _, rfl, rfl, rfl, by simp [valL]⟩
        case round =>
          obtain ⟨k, hk, rfl, rfl, hall, hvl⟩ := hrel
          have Hall : Hid (allDig (s.data.toList.take k) = true) := hall
          clear hall
          by_cases hlt : k < s.size
          · cases hg0 : dig8 (at8 s k)
            · have hg : digP (s[k].toNat : Int) = false := by rw [at8_eq s k hlt]; exact hg0
              have hfin : Hid (rdecN s = 0 ∧ rdecOk s = false) := rdec_none (rdec_nodig s k hlt hg0)
              clear hg0
              go_wp2_with (go_at_call 126; refine (digitByte_any _ _).mono ?_; rintro e w' ⟨rfl, rfl⟩)
              go_ret2
              exact ⟨ret_ib hfin.out.1 hfin.out.2, rfl⟩
            · have hg : digP (s[k].toNat : Int) = true := by rw [at8_eq s k hlt]; exact hg0
              have hb := (dig8_iff _).1 hg0
              have hval0 : valL (s.data.toList.take (k + 1)) = valL (s.data.toList.take k) * 10 + (s[k].toNat - 48) := by
                rw [allDig_take_succ s k hlt, valL_snoc, at8_eq s k hlt]
              have Hall2 : Hid (allDig (s.data.toList.take (k + 1)) = true) := by
                show _ = _
                rw [allDig_take_succ s k hlt]; exact allDig_snoc _ _ Hall.out hg0
              have hb1 : 48 ≤ s[k].toNat := by rw [at8_eq s k hlt]; exact hb.1
              have hb2 : s[k].toNat ≤ 57 := by rw [at8_eq s k hlt]; exact hb.2
              have hbig : Hid (999999999999999 < valL (s.data.toList.take (k + 1)) → rdecN s = 0 ∧ rdecOk s = false) := fun h => rdec_none (rdec_big s (k + 1) hlt Hall2.out h)
              have hval : Hid (valL (s.data.toList.take (k + 1)) = valL (s.data.toList.take k) * 10 + (s[k].toNat - 48)) := hval0
              clear hg0 hb hval0
              generalize valL (s.data.toList.take k) = v at *
              by_cases hover : (999999999999999 : Int) < (v : Int) * 10 + ((s[k].toNat : Int) - 48)
              · go_wp2_with (go_at_call 126; refine (digitByte_any _ _).mono ?_; rintro e w' ⟨rfl, rfl⟩)
                go_ret2
                have hh := hbig.out (by rw [hval.out]; omega)
                exact ⟨ret_ib hh.1 hh.2, rfl⟩
              · go_wp2_with (go_at_call 126; refine (digitByte_any _ _).mono ?_; rintro e w' ⟨rfl, rfl⟩)
                go_round
                case rel => exact ⟨k + 1, by omega, by go_num, congrArg (Value.int .i64) (by rw [hval.out]; omega), Hall2.out, by rw [hval.out]; omega⟩
                case measure => simp [intOf]; omega
          · obtain rfl : k = s.size := by omega
            have ht : s.data.toList.take s.size = s.data.toList := List.take_of_length_le (by rw [len_data]; exact Nat.le_refl _)
            rw [ht] at Hall hvl ⊢
            have hfin : Hid (rdecN s = (valL s.data.toList : Nat) ∧ rdecOk s = true) := rdec_some (rdec_end s hpos Hall.out hz'.out hvl)
            clear ht
            generalize valL s.data.toList = v at *
            go_wp2
            go_ret2
            exact ⟨ret_ib hfin.out.1 hfin.out.2, rfl⟩
end Go.Proofs.YtmhohponikolfaaGreatDoor
namespace Go.Proofs.YtmhohponikolfaaGreatDoor
set_option linter.unusedVariables false
set_option linter.unusedSimpArgs false
open Go.RowKit
theorem results_cellS {fn : Func} {p : Tmp} {ty : TypeId} (h : fn.results = #[.cell p ty]) (tmps : Array Value) (P : Program) (w : World) {b : Nat} {c : Array Value} {t : TypeId} {fs : Array Field} (hp : tmps.getD p undef = .pointer (some ⟨b, 0, none⟩)) (hB : Blk w b c t)
    (hu : P.underlying ty = some (.struct fs)) (hi : (P.info? ty).map (·.size) = some c.size) : (results fn tmps).run P w = .ok (.agg c) w := by
  have hrun := run_loadVar_row (P := P) w b t ty c (0, 0) _ hB hu rfl hi
  have ha : (asAddr (tmps.getD p undef)).run P w = .ok ⟨b, 0, none⟩ w := by rw [hp]; rfl
  have he : (results fn tmps).run P w = ((asAddr (tmps.getD p undef)).run P w).andThen fun a w₁ => (loadVar ty a).run P w₁ := by
    simp only [results, h]
    simp [Sem.run_bind, Result.andThen]
  rw [he, ha]
  exact hrun
theorem results_cellT {fn : Func} {p u : Tmp} {ty : TypeId} (h : fn.results = #[.cell p ty, .tmp u]) (tmps : Array Value) (P : Program) (w : World) {b : Nat} {c : Array Value} {t : TypeId} {fs : Array Field} (hp : tmps.getD p undef = .pointer (some ⟨b, 0, none⟩)) (hB : Blk w b c t)
    (hu : P.underlying ty = some (.struct fs)) (hi : (P.info? ty).map (·.size) = some c.size) : (results fn tmps).run P w = .ok (.tuple #[.agg c, tmps.getD u undef]) w := by
  have hrun := run_loadVar_row (P := P) w b t ty c (0, 0) _ hB hu rfl hi
  have ha : (asAddr (tmps.getD p undef)).run P w = .ok ⟨b, 0, none⟩ w := by rw [hp]; rfl
  rw [results_cell_tmp h, ha]
  show ((loadVar ty ⟨b, 0, none⟩).run P w).andThen _ = _
  rw [hrun]
  rfl
theorem Blk.c2 {w : World} {g : Nat} {x y : Value} {t : TypeId} (h : Blk w g #[x, y] t) : w.cell? ⟨g, 0, none⟩ = some x ∧ w.cell? ⟨g, 1, none⟩ = some y := ⟨h.cell 0, h.cell 1⟩
theorem Blk.set2 {w : World} {g : Nat} {a b : Value} {t : TypeId} (h : Blk w g #[a, b] t) (x y : Value) : Blk ((w.setCell ⟨g, 0, none⟩ x).setCell ⟨g, 1, none⟩ y) g #[x, y] t := (h.set 0 x).set 1 y
theorem Blk.oth2 {w : World} {b g : Nat} {c : Array Value} {t : TypeId} (h : Blk w b c t) (hne : g ≠ b) (x y : Value) : Blk ((w.setCell ⟨g, 0, none⟩ x).setCell ⟨g, 1, none⟩ y) b c t := (h.other hne 0 x).other hne 1 y
theorem below_set2 {B g : Nat} {w0 w : World} (h : Below B w0 w) (hg : B ≤ g) (x y : Value) : Below B w0 ((w.setCell ⟨g, 0, none⟩ x).setCell ⟨g, 1, none⟩ y) :=
  (h.setCell (p := ⟨g, 0, none⟩) hg x).setCell (p := ⟨g, 1, none⟩) hg y
theorem blk_a (w : World) (c : Array Value) (t : TypeId) (o o' : Obj) : Blk (((w.alloc (.cells c t)).alloc o).alloc o') w.heap.size c t := ((Blk.new w c t).alloc o).alloc o'
theorem blk_b (w : World) (c : Array Value) (t : TypeId) (o o' : Obj) : Blk (((w.alloc o).alloc (.cells c t)).alloc o') (w.heap.size + 1) c t := by
  have := (Blk.new (w.alloc o) c t).alloc o'
  simpa using this
theorem blk_c (w : World) (c : Array Value) (t : TypeId) (o o' : Obj) : Blk (((w.alloc o).alloc o').alloc (.cells c t)) (w.heap.size + 1 + 1) c t := by
  have := Blk.new ((w.alloc o).alloc o') c t
  simpa using this
theorem below_drewN' (w : World) (n : Nat) : Below w.heap.size w (w.drewN n) := ⟨rfl, rfl, rfl, Nat.le_refl _, fun _ _ => rfl⟩
theorem made2 (x y : Value) (n j : Nat) (h : j < n) : (madeCells #[x, y] (n * 2)).toList[j * 2]? = some x ∧ (madeCells #[x, y] (n * 2)).toList[j * 2 + 1]? = some y := by
  have h1 : j * 2 < n * 2 := by omega
  have h2 : j * 2 + 1 < n * 2 := by omega
  have e1 : j * 2 % 2 = 0 := by omega
  have e2 : (j * 2 + 1) % 2 = 1 := by omega
  constructor
  · simp [madeCells, h1, e1]
  · simp [madeCells, h2, e2]
end Go.Proofs.YtmhohponikolfaaGreatDoor
namespace Go.Proofs.YtmhohponikolfaaGreatDoor
set_option linter.unusedVariables false
set_option linter.unusedSimpArgs false
open Go.RowKit
/-- An address. -/
structure Ur where
  ho : ByteArray
  pa : ByteArray
  qu : ByteArray
  po : Int
  hq : Bool
def ur0 : Ur := ⟨⟨#[]⟩, ⟨#[]⟩, ⟨#[]⟩, 0, false⟩
def valU (u : Ur) : Value := .agg #[.string u.ho, .int .i64 u.po, .string u.pa, .string u.qu, .bool u.hq]
def urQ (u : Ur) : Bool := urlQ u.ho u.pa u.qu u.po u.hq
/-- The authority: up to the first / or ?. -/
def auU (r : ByteArray) : ByteArray := uptS 47 (uptS 63 r)
theorem ext_all (s : ByteArray) : s.extract 0 s.size = s := by
  apply bytes_ext
  rw [Lib.extract_data, List.drop_zero]
  exact List.take_of_length_le (by rw [len_data]; omega)
theorem auU_size (r : ByteArray) : (auU r).size ≤ r.size := Nat.le_trans (uptS_size _ _) (uptS_size _ _)
theorem auU_at {r : ByteArray} {i : Nat} (hi : i < r.size) (h0 : ∀ j, j < i → at8 r j ≠ 47 ∧ at8 r j ≠ 63) (h : at8 r i = 47 ∨ at8 r i = 63) : auU r = r.extract 0 i := by
  have pre : ∀ k, i ≤ k → k ≤ r.size → ∀ j, j < i → at8 (r.extract 0 k) j = at8 r j := fun k hk hk2 j hj => by
    rw [at8_extS hk2 (by omega), Nat.zero_add]
  unfold auU
  rcases h with h | h
  · rcases idxS_cases 63 r with h1 | ⟨k, h1, hk⟩
    · rw [uptS_none h1]
      exact uptS_some (idxS_of hi h (fun j hj => (h0 j hj).1))
    · obtain ⟨g1, g2, g3⟩ := idxS_some h1
      have hik : i < k := by
        rcases Nat.lt_trichotomy k i with h2 | h2 | h2
        · exact absurd g2 (h0 k h2).2
        · subst h2; rw [h] at g2; cases g2
        · exact h2
      rw [uptS_some h1]
      have e1 : idxS 47 (r.extract 0 k) = (i : Int) := by
        refine idxS_of (by rw [ByteArray.size_extract]; omega) ?_ ?_
        · rw [at8_extS (by omega) (by omega), Nat.zero_add]; exact h
        · intro j hj; rw [pre k (by omega) (by omega) j hj]; exact (h0 j hj).1
      rw [uptS_some e1, ByteArray.extract_extract]
      congr 1; omega
  · rw [uptS_some (idxS_of hi h (fun j hj => (h0 j hj).2))]
    refine (uptS_none (idxS_miss ?_))
    intro j hj
    have hj2 : j < i := by rw [ByteArray.size_extract] at hj; omega
    rw [pre i (Nat.le_refl _) (by omega) j hj2]
    exact (h0 j hj2).1
theorem auU_none {r : ByteArray} (h0 : ∀ j, j < r.size → at8 r j ≠ 47 ∧ at8 r j ≠ 63) : auU r = r := by
  unfold auU
  rw [uptS_none (idxS_miss (fun j hj => (h0 j hj).2))]
  exact uptS_none (idxS_miss (fun j hj => (h0 j hj).1))
theorem auU_no (r : ByteArray) : idxS 47 (auU r) = -1 ∧ idxS 63 (auU r) = -1 := by
  have key : ∀ (c : UInt8) (s : ByteArray), idxS c (uptS c s) = -1 := by
    intro c s
    rcases idxS_cases c s with h | ⟨i, h, hi⟩
    · rw [uptS_none h]; exact h
    · obtain ⟨g1, g2, g3⟩ := idxS_some h
      rw [uptS_some h]
      refine idxS_miss (fun j hj => ?_)
      have : j < i := by rw [ByteArray.size_extract] at hj; omega
      rw [at8_extS (by omega) (by omega), Nat.zero_add]
      exact g3 j this
  refine ⟨key 47 _, ?_⟩
  unfold auU
  have h63 := key 63 r
  generalize uptS 63 r = f at *
  rcases idxS_cases 47 f with h | ⟨i, h, hi⟩
  · rw [uptS_none h]; exact h63
  · rw [uptS_some h]
    refine idxS_miss (fun j hj => ?_)
    have h2 : j < i := by rw [ByteArray.size_extract] at hj; omega
    rw [at8_extS (by omega) (by omega), Nat.zero_add]
    exact idxS_none h63 j (by omega)
/-- The rest, and how it is cut at its ?. -/
def reU (r : ByteArray) : ByteArray := r.extract (auU r).size r.size
theorem idx_shift {c : UInt8} {r : ByteArray} {n : Nat} (hn : n ≤ r.size) (h0 : ∀ j, j < n → at8 r j ≠ c) : (idxS c (r.extract n r.size) = -1 ∧ idxS c r = -1) ∨ ∃ i : Nat, idxS c (r.extract n r.size) = (i : Int) ∧ idxS c r = ((n + i : Nat) : Int) ∧ n + i < r.size := by
  have hz : (r.extract n r.size).size = r.size - n := by rw [ByteArray.size_extract]; omega
  rcases idxS_cases c (r.extract n r.size) with h | ⟨i, h, hi⟩
  · left
    refine ⟨h, idxS_miss (fun j hj => ?_)⟩
    rcases Nat.lt_or_ge j n with h1 | h1
    · exact h0 j h1
    · have := idxS_none h (j - n) (by omega)
      rwa [at8_extS (Nat.le_refl _) (by omega), show n + (j - n) = j by omega] at this
  · right
    obtain ⟨g1, g2, g3⟩ := idxS_some h
    refine ⟨i, h, idxS_of (by omega) ?_ ?_, by omega⟩
    · rwa [at8_extS (Nat.le_refl _) (by omega)] at g2
    · intro j hj
      rcases Nat.lt_or_ge j n with h1 | h1
      · exact h0 j h1
      · have := g3 (j - n) (by omega)
        rwa [at8_extS (Nat.le_refl _) (by omega), show n + (j - n) = j by omega] at this
theorem ext_congr {s : ByteArray} {a b a' b' : Nat} (h1 : a = a') (h2 : b = b') : s.extract a b = s.extract a' b' := by rw [h1, h2]
theorem auU_pre (r : ByteArray) : auU r = r.extract 0 (auU r).size := by
  unfold auU
  rcases idxS_cases 63 r with h | ⟨i, h, hi⟩
  · rw [uptS_none h]
    rcases idxS_cases 47 r with g | ⟨k, g, hk⟩
    · rw [uptS_none g]; exact (ext_all r).symm
    · rw [uptS_some g, ByteArray.size_extract]; congr 1; omega
  · rw [uptS_some h]
    rcases idxS_cases 47 (r.extract 0 i) with g | ⟨k, g, hk⟩
    · rw [uptS_none g, ByteArray.size_extract]; congr 1; omega
    · have hz : (r.extract 0 i).size = i := by rw [ByteArray.size_extract]; omega
      rw [uptS_some g, ByteArray.extract_extract, ByteArray.size_extract]
      congr 1 <;> omega
theorem auU_head (r : ByteArray) : ∀ j, j < (auU r).size → at8 r j ≠ 63 := by
  intro j hj
  have h := idxS_none (auU_no r).2 j hj
  have hs := auU_size r
  have e : at8 (auU r) j = at8 r j := by
    have h1 := at8_extS (s := r) (a := 0) (b := (auU r).size) (j := j) hs (by omega)
    rw [← auU_pre r, Nat.zero_add] at h1
    exact h1
  rwa [e] at h
/-- Cut at ? the rest gives the path and the query as the whole does. -/
theorem reU_cut (r : ByteArray) : uptS 63 (reU r) = (uptS 63 r).extract (auU r).size (uptS 63 r).size ∧ bhS 63 (reU r) = bhS 63 r ∧ hasS 63 (reU r) = hasS 63 r ∧ (auU r).size ≤ (uptS 63 r).size := by
  have hs := auU_size r
  have hsu : (auU r).size ≤ (uptS 63 r).size := uptS_size _ _
  rcases idx_shift (c := 63) hs (auU_head r) with ⟨h1, h2⟩ | ⟨i, h1, h2, h3⟩
  · obtain ⟨a1, a2, a3⟩ := cut_none h1
    obtain ⟨b1, b2, b3⟩ := cut_none h2
    unfold reU
    rw [a1, a2, a3, b1, b2, b3]
    rw [b1] at hsu
    exact ⟨rfl, rfl, rfl, hsu⟩
  · obtain ⟨a1, a2, a3⟩ := cut_some h1
    obtain ⟨b1, b2, b3⟩ := cut_some h2
    have hz : (r.extract (auU r).size r.size).size = r.size - (auU r).size := by rw [ByteArray.size_extract]; omega
    unfold reU
    rw [a1, a2, a3, b1, b2, b3]
    rw [b1] at hsu
    refine ⟨?_, ?_, rfl, hsu⟩
    · rw [ByteArray.extract_extract, ByteArray.extract_extract]
      have e2 : (r.extract 0 ((auU r).size + i)).size = (auU r).size + i := by rw [ByteArray.size_extract]; omega
      rw [e2]
      exact ext_congr (by omega) (by omega)
    · rw [hz, ByteArray.extract_extract]
      exact ext_congr (by omega) (by omega)
/-- The parts as they stand. -/
def lsU (a e : ByteArray) : Ur := ⟨uptS 58 a, uptS 63 e, bhS 63 e, if hasS 58 a = true then rdecN (bhS 58 a) else 80, hasS 63 e⟩
def rootB : ByteArray := ⟨#[47]⟩
def rdK (r : ByteArray) : Ur := ⟨foldB (uptS 58 (auU r)), clnB (if (uptS 63 (reU r)).size = 0 then rootB else uptS 63 (reU r)), bhS 63 r, if hasS 58 (auU r) = true then rdecN (bhS 58 (auU r)) else 80, hasS 63 r⟩
def pre7 (s : ByteArray) : Bool := decide (7 ≤ s.size) && eqB (foldB (s.extract 0 7)) schB
def rdA (s : ByteArray) : Bool := targQ s && decide (idxS 35 s < 0) && pre7 s
def rdO (s : ByteArray) : Bool := rdA s && urQ (rdK (s.extract 7 s.size))
def rdU (s : ByteArray) : Ur := if rdO s = true then rdK (s.extract 7 s.size) else ur0
theorem ret_ssU {a b x y : ByteArray} (h1 : x = a) (h2 : y = b) : Ending.returned (.tuple #[.string a, .string b]) = .returned (.tuple #[.string x, .string y]) := by rw [h1, h2]
set_option maxRecDepth 100000 in
set_option maxHeartbeats 4000000 in
theorem cutAuthority_any (r : ByteArray) (w : World) (hs : r.size ≤ 1048576) (hv : ∀ j, j < r.size → (at8 r j).toNat < 128) :
    Calls Tryz.prog 45 #[.string r] w fun e w' => e = .returned (.tuple #[.string (auU r), .string (reU r)]) ∧ Below w.heap.size w w' := by
  have HV := hideB2 hv
  clear hv
  unfold reU
  generalize hA : auU r = A
  have HA := hideB2 hA
  clear hA
  have HI := hideB2 (fun k => (below_a1 w (.stringIter r k) : Below w.heap.size w (w.iter r k)))
  go_enter Tryz.func45, Tryz.ntmps45
  go_wp2
  go_loopg [8, 9] r.size (fun g _ _ wx => ∃ i : Nat, i + g = r.size ∧ wx = w.iter r i ∧ ∀ j, j < i → at8 r j ≠ 47 ∧ at8 r j ≠ 63)
  case atStart => exact ⟨0, by omega, rfl, fun j hj => by omega⟩
  case round =>
    obtain ⟨i, hig, rfl, hall⟩ := hrel
    have HP := hideB2 hall
    clear hall
    cases gk with
    | zero =>
      obtain rfl : i = r.size := by omega
      have hnx := run_next_end (P := Tryz.prog) w r r.size
      have HF := hideB2 (show A = r by rw [← HA.out]; exact auU_none (fun j hj => HP.out j hj))
      have HF2 := hideB2 (show r.extract A.size r.size = ⟨#[]⟩ by rw [HF.out]; exact size_nil (by rw [ByteArray.size_extract]; omega))
      go_wp2
      go_ret2
      exact ⟨ret_ssU HF.out HF2.out, HI.out _⟩
    | succ g =>
      have hi : i < r.size := by omega
      have hat : r[i] = at8 r i := at8_eq r i hi
      have ha : (r[i]).toNat < 128 := by rw [hat]; exact HV.out i hi
      have hnx := fun ty => run_next_ascii (P := Tryz.prog) w r i ty hi ha
      have q47 : ((r[i].toNat : Int) == 47) = (at8 r i == 47) := by rw [hat]; exact u8_beq _ 47
      have q63 : ((r[i].toNat : Int) == 63) = (at8 r i == 63) := by rw [hat]; exact u8_beq _ 63
      clear hat ha
      have c1 : (i : Int) ≤ (r.size : Int) := by omega
      have c0 : (0 : Int) ≤ (i : Int) := by omega
      cases h47 : (at8 r i == 47)
      · rw [h47] at q47
        cases h63 : (at8 r i == 63)
        · rw [h63] at q63
          have HQ := hideB2 (show at8 r i ≠ 47 ∧ at8 r i ≠ 63 from ⟨beq_eq_false_iff_ne.1 h47, beq_eq_false_iff_ne.1 h63⟩)
          clear h47 h63
          go_wp2
          go_roundg g
          case measure => omega
          case rel => exact ⟨i + 1, by omega, rfl, all_succ HP.out HQ.out⟩
        · rw [h63] at q63
          have HF := hideB2 (show A = r.extract 0 i by rw [← HA.out]; exact auU_at hi HP.out (.inr (beq_iff_eq.1 h63)))
          have hz : A.size = i := by rw [HF.out, ByteArray.size_extract]; omega
          have HZ := hideB2 (show r.extract A.size r.size = r.extract i r.size by rw [hz])
          clear h47 h63 hz
          go_wp2
          go_region
          go_wp2
          go_ret2
          exact ⟨ret_ssU HF.out HZ.out, (HI.out _).drew⟩
      · rw [h47] at q47
        have HF := hideB2 (show A = r.extract 0 i by rw [← HA.out]; exact auU_at hi HP.out (.inl (beq_iff_eq.1 h47)))
        have hz : A.size = i := by rw [HF.out, ByteArray.size_extract]; omega
        have HZ := hideB2 (show r.extract A.size r.size = r.extract i r.size by rw [hz])
        clear h47 hz
        go_wp2
        go_region
        go_wp2
        go_ret2
        exact ⟨ret_ssU HF.out HZ.out, (HI.out _).drew⟩
end Go.Proofs.YtmhohponikolfaaGreatDoor
namespace Go.Proofs.YtmhohponikolfaaGreatDoor
set_option linter.unusedVariables false
set_option linter.unusedSimpArgs false
open Go.RowKit
def plS : ByteArray := ⟨#[72, 84, 84, 80, 58, 47, 47, 65, 46, 98, 47, 120, 47, 46, 46, 47, 121, 63, 122]⟩
set_option maxRecDepth 100000 in
theorem pl_ok : rdO plS = true := by kernel_rfl
set_option maxRecDepth 100000 in
theorem pl_ur : rdU plS = ⟨⟨#[97, 46, 98]⟩, ⟨#[47, 121]⟩, ⟨#[122]⟩, 80, true⟩ := by kernel_rfl
set_option maxRecDepth 100000 in
theorem pl_q : urlQ ⟨#[97, 46, 98]⟩ ⟨#[47, 121]⟩ ⟨#[122]⟩ 80 true = true := by kernel_rfl
theorem pl_t : utxt ⟨#[97, 46, 98]⟩ ⟨#[47, 121]⟩ ⟨#[122]⟩ 80 true = ⟨#[104, 116, 116, 112, 58, 47, 47, 97, 46, 98, 47, 121, 63, 122]⟩ := by kernel_rfl
theorem pl_s : surtB ⟨#[97, 46, 98]⟩ ⟨#[47, 121]⟩ ⟨#[122]⟩ 80 true = ⟨#[98, 44, 97, 41, 47, 121, 63, 122]⟩ := by kernel_rfl
end Go.Proofs.YtmhohponikolfaaGreatDoor
namespace Go.Proofs.YtmhohponikolfaaGreatDoor
set_option linter.unusedVariables false
set_option linter.unusedSimpArgs false
open Go.ChangeShapes Go.WideShapes Go.ChangeAt Go.RowKit
open Go.ChangeMaps (open_string shut_string)
theorem Tryz.own : ownKnob Tryz.prog.godebug = none := by kernel_rfl
theorem Tryz.laidOut : laidOutB Tryz.prog = true := by kernel_rfl
/-- What the walk is told of a slice of integers that came in: it is nil; or it leads to a row of 'cap' cells, the numbers 'zs' (the first 'len' are its elements, the rest its spare room), each fitting its kind. -/
def IsRow (k : IntKind) (w : World) (a : Option Addr) (len cap : Nat) (zs : List Int) : Prop :=
  (a = none ∧ len = 0 ∧ cap = 0 ∧ zs = []) ∨
  ∃ x, a = some x ∧ len ≤ cap ∧ cap ≤ maxLen ∧ zs.length = cap ∧ (∀ i, i < zs.length → w.cell? (x.add i) = some (.int k (zs.getD i 0))) ∧ ∀ n ∈ zs, (Lit.int k n).wf = true

end Go.Proofs.YtmhohponikolfaaGreatDoor
namespace Go.Proofs.YtmhohponikolfaaGreatDoor
set_option linter.unusedVariables false
set_option linter.unusedSimpArgs false
open Go.ChangeShapes Go.WideShapes Go.ChangeAt Go.RowKit
/-- What is asked of an address that came in. -/
structure ArgU (ho pa qu : ByteArray) : Prop where
  zho : ho.size ≤ maxLen
  zpa : pa.size ≤ maxLen
  zqu : qu.size ≤ maxLen
theorem array5 {α : Type} {cs : Array α} (h : cs.size = 5) : ∃ c0 c1 c2 c3 c4, cs = #[c0, c1, c2, c3, c4] := by
  obtain ⟨l⟩ := cs
  match l, h with
  | [c0, c1, c2, c3, c4], _ => exact ⟨c0, c1, c2, c3, c4, rfl⟩
set_option maxRecDepth 100000 in
theorem open_url {H : Type} {enc : TypeId × Value → H} {w : World} {base : Nat} {spare : Nat → Bool} {held : Bool} {r : Reach} {b0 : Nat} {t : TypeId} {f0 f1 f2 f3 f4 : Field} {v : Value} {d : DataW H} {p : List MemPlace}
    (hs : Tryz.prog.underlying t = some (.struct #[f0, f1, f2, f3, f4])) (hone : Go.Deep.oneCellFields Tryz.prog #[f0, f1, f2, f3, f4] = true) (hC : Tryz.prog.cellsOf t = 5)
    (e0 : Tryz.prog.underlying f0.type = some .string) (e1 : Tryz.prog.underlying f1.type = some (.int .i64)) (e2 : Tryz.prog.underlying f2.type = some .string) (e3 : Tryz.prog.underlying f3.type = some .string) (e4 : Tryz.prog.underlying f4.type = some .bool)
    (hv : Value.okWide Tryz.prog w r b0 t v) (h : DataW.Trod enc Tryz.prog w base spare held t v d p) :
    ∃ (ho pa qu : ByteArray) (po : Int) (hq : Bool), v = .agg #[.string ho, .int .i64 po, .string pa, .string qu, .bool hq] ∧ ArgU ho pa qu := by
  obtain ⟨cs, rfl, hsz⟩ := okWide_struct hs hv
  obtain ⟨c0, c1, c2, c3, c4, rfl⟩ := array5 (hsz.trans hC)
  obtain ⟨fuel, hf⟩ := h
  obtain ⟨xs, n, _, _, hl, hlen, hf⟩ := DataW.trod_struct hs hf
  obtain ⟨o0, k0⟩ := Go.Deep.hone_of hone 0 f0 rfl
  obtain ⟨o1, k1⟩ := Go.Deep.hone_of hone 1 f1 rfl
  obtain ⟨o2, k2⟩ := Go.Deep.hone_of hone 2 f2 rfl
  obtain ⟨o3, k3⟩ := Go.Deep.hone_of hone 3 f3 rfl
  obtain ⟨o4, k4⟩ := Go.Deep.hone_of hone 4 f4 rfl
  have g : ∀ j, j < 5 → ∃ y, xs[j]? = some y := by
    intro j hj
    have : xs.length = 5 := by simpa using hlen
    exact ⟨_, List.getElem?_eq_getElem (by omega)⟩
  have str : ∀ {ty : TypeId} {c : Value} {x : Option (DataW H × List MemPlace)}, Tryz.prog.underlying ty = some .string → (∃ y, x = some y) → DataW.trod enc Tryz.prog w base spare held n ty [c] = x → ∃ z : ByteArray, c = .string z ∧ z.size ≤ maxLen := by
    intro ty c x hu ⟨y, hy⟩ ht
    rw [hy] at ht
    obtain ⟨z, hz, _, hw⟩ := DataW.trod_string hu ht
    exact ⟨z, by simpa using hz, hw⟩
  obtain ⟨ho, rfl, z0⟩ := str e0 (g 0 (by omega)) (by simpa [Value.cells, o0, k0] using hf 0 f0 rfl)
  obtain ⟨y1, hy1⟩ := g 1 (by omega)
  have t1 : DataW.trod enc Tryz.prog w base spare held n f1.type [c1] = xs[1]? := by simpa [Value.cells, o1, k1] using hf 1 f1 rfl
  rw [hy1] at t1
  obtain ⟨po, hst, _, _⟩ := DataW.trod_int e1 t1
  obtain rfl : c1 = .int .i64 po := by simpa using hst
  obtain ⟨pa, rfl, z2⟩ := str e2 (g 2 (by omega)) (by simpa [Value.cells, o2, k2] using hf 2 f2 rfl)
  obtain ⟨qu, rfl, z3⟩ := str e3 (g 3 (by omega)) (by simpa [Value.cells, o3, k3] using hf 3 f3 rfl)
  obtain ⟨y4, hy4⟩ := g 4 (by omega)
  have t4 : DataW.trod enc Tryz.prog w base spare held n f4.type [c4] = xs[4]? := by simpa [Value.cells, o4, k4] using hf 4 f4 rfl
  rw [hy4] at t4
  obtain ⟨hq, hba, _⟩ := DataW.trod_bool e4 t4
  obtain rfl : c4 = .bool hq := by simpa using hba
  exact ⟨ho, pa, qu, po, hq, rfl, z0, z2, z3⟩
theorem Tryz.infoUrl : (Tryz.prog.info? 38).map (·.size) = some 5 := by kernel_rfl
end Go.Proofs.YtmhohponikolfaaGreatDoor
namespace Go.Proofs.YtmhohponikolfaaGreatDoor
set_option linter.unusedVariables false
set_option linter.unusedSimpArgs false
open Go.RowKit
theorem Blk.set5U {w : World} {g : Nat} {a b c d e : Value} {t : TypeId} (H : Blk w g #[a, b, c, d, e] t) (x0 x1 x2 x3 x4 : Value) : Blk (((((w.setCell ⟨g, 0, none⟩ x0).setCell ⟨g, 1, none⟩ x1).setCell ⟨g, 2, none⟩ x2).setCell ⟨g, 3, none⟩ x3).setCell ⟨g, 4, none⟩ x4) g #[x0, x1, x2, x3, x4] t := by
  have h0 : Blk (w.setCell ⟨g, 0, none⟩ x0) g #[x0, b, c, d, e] t := H.set 0 x0
  have h1 : Blk ((w.setCell ⟨g, 0, none⟩ x0).setCell ⟨g, 1, none⟩ x1) g #[x0, x1, c, d, e] t := h0.set 1 x1
  have h2 : Blk (((w.setCell ⟨g, 0, none⟩ x0).setCell ⟨g, 1, none⟩ x1).setCell ⟨g, 2, none⟩ x2) g #[x0, x1, x2, d, e] t := h1.set 2 x2
  have h3 : Blk ((((w.setCell ⟨g, 0, none⟩ x0).setCell ⟨g, 1, none⟩ x1).setCell ⟨g, 2, none⟩ x2).setCell ⟨g, 3, none⟩ x3) g #[x0, x1, x2, x3, e] t := h2.set 3 x3
  exact h3.set 4 x4
theorem Blk.f5U {w : World} {g : Nat} {c : Array Value} {t : TypeId} (H : Blk w g c t) : w.frozen? ⟨g, 0, none⟩ = false ∧ w.frozen? ⟨g, 1, none⟩ = false ∧ w.frozen? ⟨g, 2, none⟩ = false ∧ w.frozen? ⟨g, 3, none⟩ = false ∧ w.frozen? ⟨g, 4, none⟩ = false := ⟨H.free 0, H.free 1, H.free 2, H.free 3, H.free 4⟩
theorem below_set5 {B g : Nat} {w0 w : World} (H : Below B w0 w) (hg : B ≤ g) (x0 x1 x2 x3 x4 : Value) : Below B w0 (((((w.setCell ⟨g, 0, none⟩ x0).setCell ⟨g, 1, none⟩ x1).setCell ⟨g, 2, none⟩ x2).setCell ⟨g, 3, none⟩ x3).setCell ⟨g, 4, none⟩ x4) := ((((H.setCell (p := ⟨g, 0, none⟩) hg x0).setCell (p := ⟨g, 1, none⟩) hg x1).setCell (p := ⟨g, 2, none⟩) hg x2).setCell (p := ⟨g, 3, none⟩) hg x3).setCell (p := ⟨g, 4, none⟩) hg x4
set_option maxRecDepth 100000 in
set_option maxHeartbeats 4000000 in
theorem looseUrl_any (a e : ByteArray) (w : World) (ha : a.size ≤ 1048576) (he : e.size ≤ 1048576) :
    Calls Tryz.prog 46 #[.string a, .string e] w fun r w' => r = .returned (.agg #[.string (uptS 58 a), .int .i64 (if hasS 58 a = true then rdecN (bhS 58 a) else 80), .string (uptS 63 e), .string (bhS 63 e), .bool (hasS 63 e)]) ∧ Below w.heap.size w w' := by
  have HB := hideB2 (below_a1 w (.cells #[.string ⟨#[]⟩, .int .i64 0, .string ⟨#[]⟩, .string ⟨#[]⟩, .bool false] 38))
  have A0 := hideB2 (Blk.new w #[.string ⟨#[]⟩, .int .i64 0, .string ⟨#[]⟩, .string ⟨#[]⟩, .bool false] 38)
  have H1 := hideB2 (fun W => CutS_any a 58 W (by unfold maxLen; omega))
  have H2 := hideB2 (fun W => CutS_any e 63 W (by unfold maxLen; omega))
  have hz := bhS_size 58 a
  have HD := hideB2 (fun W => ReadDec_any (bhS 58 a) W (by unfold maxLen; omega))
  clear hz
  generalize rdecN (bhS 58 a) = n at *
  generalize rdecOk (bhS 58 a) = okn at *
  generalize bhS 58 a = d at *
  generalize uptS 58 a = h at *
  generalize uptS 63 e = p at *
  generalize bhS 63 e = q at *
  generalize hasS 63 e = b at *
  generalize hasS 58 a = told at *
  cases told
  · rw [if_neg (by simp)]
    go_enter Tryz.func46, Tryz.ntmps46
    go_wp2_with fail
    refine (H1.out _).mono ?_
    rintro e1 w1 ⟨rfl, hb1⟩
    have B1 := Blk.new w1 #[.string h, .int .i64 80, .string ⟨#[]⟩, .string ⟨#[]⟩, .bool false] 38
    have A1 := (A0.out.later hb1).alloc (.cells #[.string h, .int .i64 80, .string ⟨#[]⟩, .string ⟨#[]⟩, .bool false] 38)
    have hb1' := below_then (below_then HB.out hb1) (below_a1 w1 (.cells #[.string h, .int .i64 80, .string ⟨#[]⟩, .string ⟨#[]⟩, .bool false] 38))
    have hlt := (A0.out.later hb1).lt
    clear hb1 HB A0
    go_wp2_with fail
    refine (H2.out _).mono ?_
    rintro e2 w2 ⟨rfl, hb2⟩
    have B2 := B1.later hb2
    have A2 := A1.later hb2
    have HB2 := hideB2 (below_then hb1' hb2)
    obtain ⟨p0, p1, p2, p3, p4⟩ := B2.u5
    obtain ⟨f0, f1, f2, f3, f4⟩ := B2.f5U
    obtain ⟨a0, a1, a2, a3, a4⟩ := A2.u5
    obtain ⟨g0, g1, g2, g3, g4⟩ := A2.f5U
    have HA2 := hideB2 A2
    clear B1 B2 A1 A2 hb1' hb2 H1 H2
    generalize w1.heap.size = G at *
    have hne : G ≠ w.heap.size := by omega
    have hne' : w.heap.size ≠ G := by omega
    go_wp2
    refine bodyPost_ret (results_cellS rfl _ _ _ rfl ((((HA2.out.other hne 2 _).other hne 3 _).other hne 4 _).set5U _ _ _ _ _) Tryz.underlying38 Tryz.infoUrl) rfl ⟨rfl, ?_⟩
    exact below_set5 (((HB2.out.setCell (p := ⟨G, 2, none⟩) (by show w.heap.size ≤ G; omega) _).setCell (p := ⟨G, 3, none⟩) (by show w.heap.size ≤ G; omega) _).setCell (p := ⟨G, 4, none⟩) (by show w.heap.size ≤ G; omega) _) (Nat.le_refl _) _ _ _ _ _
  · rw [if_pos rfl]
    go_enter Tryz.func46, Tryz.ntmps46
    go_wp2_with fail
    refine (H1.out _).mono ?_
    rintro e1 w1 ⟨rfl, hb1⟩
    have B1 := Blk.new w1 #[.string h, .int .i64 n, .string ⟨#[]⟩, .string ⟨#[]⟩, .bool false] 38
    have A1 := (A0.out.later hb1).alloc (.cells #[.string h, .int .i64 n, .string ⟨#[]⟩, .string ⟨#[]⟩, .bool false] 38)
    have hb1' := below_then (below_then HB.out hb1) (below_a1 w1 (.cells #[.string h, .int .i64 n, .string ⟨#[]⟩, .string ⟨#[]⟩, .bool false] 38))
    have hlt := (A0.out.later hb1).lt
    clear hb1 HB A0
    go_wp2_with (first | (go_at_call 90; refine (HD.out _).mono ?_; rintro e3 w3 ⟨rfl, rfl⟩) | fail)
    refine (H2.out _).mono ?_
    rintro e2 w2 ⟨rfl, hb2⟩
    have B2 := B1.later hb2
    have A2 := A1.later hb2
    have HB2 := hideB2 (below_then hb1' hb2)
    obtain ⟨p0, p1, p2, p3, p4⟩ := B2.u5
    obtain ⟨f0, f1, f2, f3, f4⟩ := B2.f5U
    obtain ⟨a0, a1, a2, a3, a4⟩ := A2.u5
    obtain ⟨g0, g1, g2, g3, g4⟩ := A2.f5U
    have HA2 := hideB2 A2
    clear B1 B2 A1 A2 hb1' hb2 H1 H2
    have hne : w1.heap.size ≠ w.heap.size := by omega
    have hne' : w.heap.size ≠ w1.heap.size := by omega
    generalize w1.heap.size = G at *
    go_wp2
    refine bodyPost_ret (results_cellS rfl _ _ _ rfl ((((HA2.out.other hne 2 _).other hne 3 _).other hne 4 _).set5U _ _ _ _ _) Tryz.underlying38 Tryz.infoUrl) rfl ⟨rfl, ?_⟩
    exact below_set5 (((HB2.out.setCell (p := ⟨G, 2, none⟩) (by show w.heap.size ≤ G; omega) _).setCell (p := ⟨G, 3, none⟩) (by show w.heap.size ≤ G; omega) _).setCell (p := ⟨G, 4, none⟩) (by show w.heap.size ≤ G; omega) _) (Nat.le_refl _) _ _ _ _ _
theorem clnB_size (p : ByteArray) : (clnB p).size ≤ 202 := by
  cases hp : pthQ p
  · rw [clnB_no hp]; show (0 : Nat) ≤ _; omega
  · rw [clnB_yes hp]
    have hz : p.size ≤ 200 := by
      unfold pthQ at hp
      rw [Bool.and_eq_true, Bool.and_eq_true] at hp
      exact (targQ_iff.1 hp.1.1).2.1
    have h1 := evB_size (p.extract 1 p.size)
    have h2 : (p.extract 1 p.size).size ≤ p.size := by rw [ByteArray.size_extract]; omega
    generalize evB (p.extract 1 p.size) = y at *
    have h3 := splS_len 47 y
    have h4 := splS_sum 47 y.size y (Nat.le_refl _)
    generalize splS 47 y = L at *
    have h5 := keptL_le L
    generalize keptL L = K at *
    unfold clnL
    split
    · show (1 : Nat) ≤ _; omega
    · show (tailS 47 K).toArray.size ≤ _
      rw [List.size_toArray, tailS_len]
      omega
theorem ext7 {s : ByteArray} (h : 7 ≤ s.size) : (foldB s).extract 0 7 = foldB (s.extract 0 7) := by
  apply bytes_ext
  rw [Lib.extract_data]
  unfold foldB foldL
  rw [Lib.extract_data]
  simp [List.map_take]
set_option maxHeartbeats 1000000 in
theorem HasPre7_any (s : ByteArray) (w : World) (hs : s.size ≤ maxLen) :
    Calls Tryz.prog 43 #[.string (foldB s), .string ⟨#[104, 116, 116, 112, 58, 47, 47]⟩] w fun e w' => e = .returned (.bool (pre7 s)) ∧ w' = w := by
  unfold maxLen at hs
  have hz := foldB_size s
  by_cases h7 : 7 ≤ s.size
  · have e1 : pre7 s = ((foldB s).extract 0 7).toList.beq [104, 116, 116, 112, 58, 47, 47] := by
      unfold pre7
      rw [decide_eq_true h7, Bool.true_and, ext7 h7]
      unfold eqB
      rw [ByteArray.toList_eq schB]
      rfl
    have h1 : (7 : Int) ≤ ((foldB s).size : Int) := by omega
    have h2 : (((foldB s).extract 0 7).toList == [104, 116, 116, 112, 58, 47, 47]) = pre7 s := e1.symm
    clear e1 h7
    generalize foldB s = x at *
    generalize pre7 s = q at *
    go_enter Tryz.func43, Tryz.ntmps43
    go_wp2
    go_ret
    exact ⟨by first | rfl | (rw [h2]), rfl⟩
  · have e1 : pre7 s = false := by unfold pre7; rw [decide_eq_false h7]; rfl
    have h1 : ¬ (7 : Int) ≤ ((foldB s).size : Int) := by omega
    rw [e1]
    clear e1 h7
    generalize foldB s = x at *
    go_enter Tryz.func43, Tryz.ntmps43
    go_wp2
    go_ret
    exact ⟨rfl, rfl⟩
theorem rdA_no {s : ByteArray} (h : rdA s = false) : rdO s = false ∧ rdU s = ur0 := by
  have h1 : rdO s = false := by unfold rdO; rw [h]; rfl
  exact ⟨h1, by unfold rdU; rw [h1]; rfl⟩
theorem rdA_yes {s : ByteArray} (h : rdA s = true) : rdO s = urQ (rdK (s.extract 7 s.size)) ∧ rdU s = if urQ (rdK (s.extract 7 s.size)) = true then rdK (s.extract 7 s.size) else ur0 := by
  have h1 : rdO s = urQ (rdK (s.extract 7 s.size)) := by unfold rdO; rw [h, Bool.true_and]
  exact ⟨h1, by unfold rdU; rw [h1]⟩
theorem vis_at {s : ByteArray} (h : targQ s = true) : ∀ j, j < s.size → (at8 s j).toNat < 128 := by
  intro j hj
  have hl : j < s.data.toList.length := by rw [len_data]; exact hj
  have e : s.data.toList[j]? = some (at8 s j) := by
    unfold at8
    rw [List.getD, List.getElem?_eq_getElem hl, Option.getD_some]
  exact vis_ascii h j _ e
set_option maxRecDepth 100000 in
set_option maxHeartbeats 8000000 in
theorem ReadUrl_any (s : ByteArray) (w : World) (hs : s.size ≤ 1048576) (htab : Tab10 w) :
    Calls Tryz.prog 18 #[.string s] w fun e w' => e = .returned (.tuple #[valU (rdU s), .bool (rdO s)]) ∧ Below w.heap.size w w' := by
  have HB := hideB2 (below_a1 w (.cells #[.string ⟨#[]⟩, .int .i64 0, .string ⟨#[]⟩, .string ⟨#[]⟩, .bool false] 38))
  have A0 := hideB2 (Blk.new w #[.string ⟨#[]⟩, .int .i64 0, .string ⟨#[]⟩, .string ⟨#[]⟩, .bool false] 38)
  have HT := hideB2 htab
  have H1 := hideB2 (fun W => targetOk_any s W (by unfold maxLen; omega))
  have H2 := hideB2 (fun W => Any.strings_Contains_one Tryz.lays144 s 35 W)
  change Hid (∀ W, Calls _ _ _ W fun e w' => e = .returned (.bool (decide (0 ≤ idxS 35 s))) ∧ w' = W) at H2
  have H3 := hideB2 (fun W => Fold_any s W (by unfold maxLen; omega))
  have H4 := hideB2 (fun W => HasPre7_any s W (by unfold maxLen; omega))
  clear htab
  cases q1 : targQ s
  · obtain ⟨e1, e2⟩ := rdA_no (s := s) (by unfold rdA; rw [q1]; rfl)
    rw [e1, e2]
    rw [q1] at H1
    clear e1 e2 q1
    go_enter Tryz.func18, Tryz.ntmps18
    go_wp2_with (go_at_call 41; refine (H1.out _).mono ?_; rintro e w' ⟨rfl, rfl⟩)
    refine bodyPost_ret (results_cellT rfl _ _ _ rfl (Blk.new w _ _) Tryz.underlying38 Tryz.infoUrl) rfl ⟨rfl, HB.out⟩
  · rw [q1] at H1
    by_cases q2 : 0 ≤ idxS 35 s
    · obtain ⟨e1, e2⟩ := rdA_no (s := s) (by unfold rdA; rw [decide_eq_false (show ¬ idxS 35 s < 0 by omega)]; simp)
      rw [e1, e2]
      rw [decide_eq_true q2] at H2
      clear e1 e2 q1 q2
      go_enter Tryz.func18, Tryz.ntmps18
      go_wp2_with (first | (go_at_call 41; refine (H1.out _).mono ?_; rintro e w' ⟨rfl, rfl⟩) | (go_at_call 42; refine (H2.out _).mono ?_; rintro e w' ⟨rfl, rfl⟩))
      refine bodyPost_ret (results_cellT rfl _ _ _ rfl (Blk.new w _ _) Tryz.underlying38 Tryz.infoUrl) rfl ⟨rfl, HB.out⟩
    · rw [decide_eq_false q2] at H2
      cases q3 : pre7 s
      · obtain ⟨e1, e2⟩ := rdA_no (s := s) (by unfold rdA; rw [q3]; simp)
        rw [e1, e2]
        rw [q3] at H4
        clear e1 e2 q1 q2 q3
        go_enter Tryz.func18, Tryz.ntmps18
        go_wp2_with (first | (go_at_call 41; refine (H1.out _).mono ?_; rintro e w' ⟨rfl, rfl⟩) | (go_at_call 42; refine (H2.out _).mono ?_; rintro e w' ⟨rfl, rfl⟩) | (go_at_call 44; refine (H3.out _).mono ?_; rintro e w1 ⟨rfl, hb1⟩; have A1 := hideB2 (A0.out.later hb1); have HB1 := hideB2 (below_then HB.out hb1); obtain ⟨a0, a1, a2, a3, a4⟩ := A1.out.u5; obtain ⟨g0, g1, g2, g3, g4⟩ := A1.out.f5U) | (go_at_call 43; refine (H4.out _).mono ?_; rintro e w' ⟨rfl, rfl⟩))
        refine bodyPost_ret (results_cellT rfl _ _ _ rfl (A1.out.set5U _ _ _ _ _) Tryz.underlying38 Tryz.infoUrl) rfl ⟨rfl, ?_⟩
        exact below_set5 HB1.out (Nat.le_refl _) _ _ _ _ _
      · rw [q3] at H4
        obtain ⟨e1, e2⟩ := rdA_yes (s := s) (by unfold rdA; rw [q1, q3, decide_eq_true (show idxS 35 s < 0 by omega)]; rfl)
        generalize hU : rdU s = U at *
        generalize hO : rdO s = O at *
        have HUO := hideB2 (And.intro e1 e2)
        clear hU hO
        have h7 : 7 ≤ s.size := by unfold pre7 at q3; rw [Bool.and_eq_true, decide_eq_true_eq] at q3; exact q3.1
        have hva := vis_at q1
        have hrz : (s.extract 7 s.size).size = s.size - 7 := by rw [ByteArray.size_extract]; omega
        have hrv : ∀ j, j < (s.extract 7 s.size).size → (at8 (s.extract 7 s.size) j).toNat < 128 := by
          intro j hj
          rw [at8_extS (Nat.le_refl _) (by omega)]
          exact hva _ (by omega)
        have c1 : (7 : Int) ≤ (s.size : Int) := by omega
        clear e1 e2 q1 q2 q3 hva
        generalize hrr : s.extract 7 s.size = r at *
        have H5 := hideB2 (fun W => cutAuthority_any r W (by omega) hrv)
        have haz := auU_size r
        have hrz2 : (reU r).size ≤ r.size := by unfold reU; rw [ByteArray.size_extract]; omega
        have H6 := hideB2 (fun W => looseUrl_any (auU r) (reU r) W (by omega) (by omega))
        obtain ⟨k1, k2, k3, k4⟩ := reU_cut r
        have hk : rdK r = ⟨foldB (uptS 58 (auU r)), clnB (if (uptS 63 (reU r)).size = 0 then rootB else uptS 63 (reU r)), bhS 63 (reU r), if hasS 58 (auU r) = true then rdecN (bhS 58 (auU r)) else 80, hasS 63 (reU r)⟩ := by unfold rdK; rw [k2, k3]
        have HK := hideB2 hk
        have z1 := uptS_size 58 (auU r)
        have z2 := uptS_size 63 (reU r)
        have z3 := bhS_size 63 (reU r)
        clear k1 k2 k3 k4 hk hrv
        generalize rdK r = KK at *
        generalize (if hasS 58 (auU r) = true then rdecN (bhS 58 (auU r)) else 80) = po at *
        generalize uptS 58 (auU r) = ho at *
        generalize uptS 63 (reU r) = pt at *
        generalize bhS 63 (reU r) = qu at *
        generalize hasS 63 (reU r) = hq at *
        generalize auU r = au at *
        generalize reU r = re at *
        have H7 := hideB2 (fun W => Fold_any ho W (by unfold maxLen; omega))
        have hfz := foldB_size ho
        generalize foldB ho = fo at *
        have hpz : (if pt.size = 0 then rootB else pt).size ≤ 1048576 := by
          split
          · show (1 : Nat) ≤ _; omega
          · omega
        have H8 := hideB2 (fun W => CleanPath_any (if pt.size = 0 then rootB else pt) W (by unfold maxLen; omega))
        have hcz : (clnB (if pt.size = 0 then rootB else pt)).size ≤ 1048576 := by
          have := clnB_size (if pt.size = 0 then rootB else pt)
          omega
        have HKE := hideB2 (show urQ KK = urlQ fo (clnB (if pt.size = 0 then rootB else pt)) qu po hq by rw [HK.out]; rfl)
        generalize clnB (if pt.size = 0 then rootB else pt) = cp at *
        have H9 := hideB2 (fun W (h : Tab10 W) => UrlOk_any fo cp qu po hq W h (by omega) hcz (by omega))
        rw [← HKE.out] at H9
        go_enter Tryz.func18, Tryz.ntmps18
        go_wp2_with (first | (go_at_call 41; refine (H1.out _).mono ?_; rintro e w' ⟨rfl, rfl⟩) | (go_at_call 42; refine (H2.out _).mono ?_; rintro e w' ⟨rfl, rfl⟩) | (go_at_call 44; refine (H3.out _).mono ?_; rintro e w1 ⟨rfl, hb1⟩) | (go_at_call 43; refine (H4.out _).mono ?_; rintro e w' ⟨rfl, rfl⟩) | (go_at_call 45; (try rw [hrr]); refine (H5.out _).mono ?_; rintro e w2 ⟨rfl, hb2⟩) | fail)
        refine (H6.out _).mono ?_
        rintro e w3 ⟨rfl, hb3⟩
        have A3 := ((A0.out.later hb1).later hb2).later hb3
        have hb3' := below_then (below_then (below_then HB.out hb1) hb2) hb3
        have hlt := A3.lt
        have B3 := Blk.new w3 #[.string ho, .int .i64 po, .string pt, .string qu, .bool hq] 38
        have A3' := A3.alloc (.cells #[.string ho, .int .i64 po, .string pt, .string qu, .bool hq] 38)
        have hb3'' := below_then hb3' (below_a1 w3 (.cells #[.string ho, .int .i64 po, .string pt, .string qu, .bool hq] 38))
        clear hb1 hb2 hb3 A3 A0 HB H1 H2 H3 H4 H5 H6
        go_wp2_with fail
        refine (H7.out _).mono ?_
        rintro e w4 ⟨rfl, hb4⟩
        have B4 := B3.later hb4
        have A4 := A3'.later hb4
        have HB4 := hideB2 (below_then hb3'' hb4)
        have hne : w3.heap.size ≠ w.heap.size := by omega
        have hge : w.heap.size ≤ w3.heap.size := by omega
        obtain ⟨p0, p1, p2, p3, p4⟩ := B4.u5
        obtain ⟨f0, f1, f2, f3, f4⟩ := B4.f5U
        have HBB4 := hideB2 B4
        have HA4 := hideB2 A4
        clear B3 A3' hb3'' hb3' hb4 B4 A4 hlt H7
        generalize w3.heap.size = G at *
        obtain rfl := HK.out
        clear HK HKE
        generalize urQ ⟨fo, cp, qu, po, hq⟩ = okv at *
        by_cases hp0 : pt.size = 0
        · have hne0 := empty_of hp0
          rw [if_pos hp0] at H8
          unfold rootB at H8
          clear hp0 hpz
          go_wp2_with fail
          refine (H8.out _).mono ?_
          rintro e w5 ⟨rfl, hb5⟩
          have B5 : Blk w5 G #[.string fo, .int .i64 po, .string ⟨#[47]⟩, .string qu, .bool hq] 38 := ((HBB4.out.set 0 _).set 2 _).later hb5
          have A5 : Blk w5 w.heap.size #[.string ⟨#[]⟩, .int .i64 0, .string ⟨#[]⟩, .string ⟨#[]⟩, .bool false] 38 := ((HA4.out.other hne 0 _).other hne 2 _).later hb5
          have HB5 := hideB2 (below_then ((HB4.out.setCell (p := ⟨G, 0, none⟩) hge _).setCell (p := ⟨G, 2, none⟩) hge _) hb5)
          clear p0 p1 p2 p3 p4 f0 f1 f2 f3 f4 hb5 HBB4 HA4 HB4 H8
          obtain ⟨p0, p1, p2, p3, p4⟩ := B5.u5
          obtain ⟨f0, f1, f2, f3, f4⟩ := B5.f5U
          have HBB5 := hideB2 B5
          have HA5 := hideB2 A5
          clear B5 A5
          go_wp2_with fail
          refine (H9.out _ (tab_later HT.out (HB5.out.setCell (p := ⟨G, 2, none⟩) hge _))).mono ?_
          rintro e w7 ⟨rfl, hb7⟩
          have B7 : Blk w7 G #[.string fo, .int .i64 po, .string cp, .string qu, .bool hq] 38 := (HBB5.out.set 2 _).later hb7
          have A7 : Blk w7 w.heap.size #[.string ⟨#[]⟩, .int .i64 0, .string ⟨#[]⟩, .string ⟨#[]⟩, .bool false] 38 := (HA5.out.other hne 2 _).later hb7
          have HB7 := hideB2 (below_then (HB5.out.setCell (p := ⟨G, 2, none⟩) hge _) hb7)
          clear p0 p1 p2 p3 p4 f0 f1 f2 f3 f4 hb7 HBB5 HA5 HB5
          obtain ⟨p0, p1, p2, p3, p4⟩ := B7.u5
          obtain ⟨a0, a1, a2, a3, a4⟩ := A7.u5
          obtain ⟨g0, g1, g2, g3, g4⟩ := A7.f5U
          have HA7 := hideB2 A7
          clear B7 A7 H9
          cases okv
          · have HF := hideB2 (show Ending.returned (.tuple #[.agg #[.string ⟨#[]⟩, .int .i64 0, .string ⟨#[]⟩, .string ⟨#[]⟩, .bool false], .bool false]) = .returned (.tuple #[valU U, .bool O]) by obtain ⟨h1, h2⟩ := HUO.out; rw [h1, h2]; rfl)
            go_wp2
            refine bodyPost_ret (results_cellT rfl _ _ _ rfl (HA7.out.set5U _ _ _ _ _) Tryz.underlying38 Tryz.infoUrl) rfl ⟨?_, ?_⟩
            · exact HF.out
            exact below_set5 HB7.out (Nat.le_refl _) _ _ _ _ _
          · have HF := hideB2 (show Ending.returned (.tuple #[.agg #[.string fo, .int .i64 po, .string cp, .string qu, .bool hq], .bool true]) = .returned (.tuple #[valU U, .bool O]) by obtain ⟨h1, h2⟩ := HUO.out; rw [h1, h2]; rfl)
            go_wp2
            refine bodyPost_ret (results_cellT rfl _ _ _ rfl (HA7.out.set5U _ _ _ _ _) Tryz.underlying38 Tryz.infoUrl) rfl ⟨?_, ?_⟩
            · exact HF.out
            exact below_set5 HB7.out (Nat.le_refl _) _ _ _ _ _
        · have hne0 := nonempty_of hp0
          rw [if_neg hp0] at H8
          clear hp0 hpz
          go_wp2_with fail
          refine (H8.out _).mono ?_
          rintro e w5 ⟨rfl, hb5⟩
          have B5 : Blk w5 G #[.string fo, .int .i64 po, .string pt, .string qu, .bool hq] 38 := (HBB4.out.set 0 _).later hb5
          have A5 : Blk w5 w.heap.size #[.string ⟨#[]⟩, .int .i64 0, .string ⟨#[]⟩, .string ⟨#[]⟩, .bool false] 38 := (HA4.out.other hne 0 _).later hb5
          have HB5 := hideB2 (below_then (HB4.out.setCell (p := ⟨G, 0, none⟩) hge _) hb5)
          clear p0 p1 p2 p3 p4 f0 f1 f2 f3 f4 hb5 HBB4 HA4 HB4 H8
          obtain ⟨p0, p1, p2, p3, p4⟩ := B5.u5
          obtain ⟨f0, f1, f2, f3, f4⟩ := B5.f5U
          have HBB5 := hideB2 B5
          have HA5 := hideB2 A5
          clear B5 A5
          go_wp2_with fail
          refine (H9.out _ (tab_later HT.out (HB5.out.setCell (p := ⟨G, 2, none⟩) hge _))).mono ?_
          rintro e w7 ⟨rfl, hb7⟩
          have B7 : Blk w7 G #[.string fo, .int .i64 po, .string cp, .string qu, .bool hq] 38 := (HBB5.out.set 2 _).later hb7
          have A7 : Blk w7 w.heap.size #[.string ⟨#[]⟩, .int .i64 0, .string ⟨#[]⟩, .string ⟨#[]⟩, .bool false] 38 := (HA5.out.other hne 2 _).later hb7
          have HB7 := hideB2 (below_then (HB5.out.setCell (p := ⟨G, 2, none⟩) hge _) hb7)
          clear p0 p1 p2 p3 p4 f0 f1 f2 f3 f4 hb7 HBB5 HA5 HB5
          obtain ⟨p0, p1, p2, p3, p4⟩ := B7.u5
          obtain ⟨a0, a1, a2, a3, a4⟩ := A7.u5
          obtain ⟨g0, g1, g2, g3, g4⟩ := A7.f5U
          have HA7 := hideB2 A7
          clear B7 A7 H9
          cases okv
          · have HF := hideB2 (show Ending.returned (.tuple #[.agg #[.string ⟨#[]⟩, .int .i64 0, .string ⟨#[]⟩, .string ⟨#[]⟩, .bool false], .bool false]) = .returned (.tuple #[valU U, .bool O]) by obtain ⟨h1, h2⟩ := HUO.out; rw [h1, h2]; rfl)
            go_wp2
            refine bodyPost_ret (results_cellT rfl _ _ _ rfl (HA7.out.set5U _ _ _ _ _) Tryz.underlying38 Tryz.infoUrl) rfl ⟨?_, ?_⟩
            · exact HF.out
            exact below_set5 HB7.out (Nat.le_refl _) _ _ _ _ _
          · have HF := hideB2 (show Ending.returned (.tuple #[.agg #[.string fo, .int .i64 po, .string cp, .string qu, .bool hq], .bool true]) = .returned (.tuple #[valU U, .bool O]) by obtain ⟨h1, h2⟩ := HUO.out; rw [h1, h2]; rfl)
            go_wp2
            refine bodyPost_ret (results_cellT rfl _ _ _ rfl (HA7.out.set5U _ _ _ _ _) Tryz.underlying38 Tryz.infoUrl) rfl ⟨?_, ?_⟩
            · exact HF.out
            exact below_set5 HB7.out (Nat.le_refl _) _ _ _ _ _
end Go.Proofs.YtmhohponikolfaaGreatDoor
