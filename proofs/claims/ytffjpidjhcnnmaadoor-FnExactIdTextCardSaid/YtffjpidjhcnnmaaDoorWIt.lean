/-
  impl.DecText by strconv.Itoa's contract; what it asks of the world comes of the row's listed tables.
-/
import Derived.Test.YtffjpidjhcnnmaaDoorW4
import Derived.Shelf.Strconv.Itoa3
import Derived.Shelf.Lay
import Derived.Lib.LaidTab
import Derived.Lib.AppendIntMem
import Derived.LaidLaws
namespace Go.Proofs
open Go.Shelf
shelf_lay LaysM.n171 Nm 171 at Tryd as Tryd.laysItoa
end Go.Proofs
namespace Go.Proofs.YtffjpidjhcnnmaaDoor
set_option linter.unusedVariables false
set_option linter.unusedSimpArgs false
open Go.RowKit
def decT (n : Int) : ByteArray := if 0 ≤ n ∧ n ≤ 999999999999999 then decB n.toNat else ⟨#[]⟩
theorem below_grow (w : World) (q : Nat) (os : Array Obj) : Below w.heap.size w (Sort.grow (w.drewN q) os) :=
  ⟨rfl, rfl, rfl, by simp [Sort.grow], fun k hk => by simp [Sort.grow, Array.getElem?_append_left, hk]⟩
set_option maxHeartbeats 1000000 in
theorem sDecText_all (n : Int) (w : World) :
    Calls Tryd.prog 13 #[.int .i64 n] w fun e w' => e = .returned (.string (decT n)) ∧ Below w.heap.size w w' := by
  by_cases h : 0 ≤ n ∧ n ≤ 999999999999999
  · obtain ⟨u, rfl⟩ := Int.eq_ofNat_of_zero_le h.1
    have := sDecText_nat u w (by omega)
    unfold decT
    rw [if_pos h]
    exact this
  · have hf : Hid (decT n = ⟨#[]⟩) := by show decT n = _; unfold decT; rw [if_neg h]
    by_cases h0 : n < 0
    · clear h
      go_enter Tryd.func13, Tryd.ntmps13
      go_wp2
      go_ret
      exact ⟨ret_str hf.out, Below.refl _ _⟩
    · have h1 : (999999999999999 : Int) < n := by omega
      clear h
      go_enter Tryd.func13, Tryd.ntmps13
      go_wp2
      go_ret
      exact ⟨ret_str hf.out, Below.refl _ _⟩
set_option maxHeartbeats 1000000 in
theorem DecText_all (n : Int) (w : World) (htab : Lib.TabIs Tryd.prog w "internal/strconv.uint64pow10" .u64 Lib.pow10Tab) :
    Calls Tryd.prog 14 #[.int .i64 n] w fun e w' => e = .returned (.string (decT n)) ∧ Below w.heap.size w w' := by
  by_cases h : 0 ≤ n ∧ n ≤ 999999999999999
  · have hf : Hid (decT n = ⟨(Lib.itoa n).toArray⟩) := by
      show decT n = _
      unfold decT decB Lib.itoa
      rw [if_pos h, if_neg (by omega)]
    have h0 : ¬ n < 0 := by omega
    have h1 : ¬ (999999999999999 : Int) < n := by omega
    have hit := Any.strconv_Itoa Tryd.laysItoa n (by omega) (by omega) w htab
    clear h htab
    go_enter Tryd.func14, Tryd.ntmps14
    go_wp2_with fail
    refine hit.mono ?_
    rintro e w1 ⟨rfl, q, os, rfl⟩
    go_wp2
    go_ret
    exact ⟨ret_str hf.out, below_grow _ _ _⟩
  · have hf : Hid (decT n = ⟨#[]⟩) := by show decT n = _; unfold decT; rw [if_neg h]
    by_cases h0 : n < 0
    · clear h htab
      go_enter Tryd.func14, Tryd.ntmps14
      go_wp2
      go_ret
      exact ⟨ret_str hf.out, Below.refl _ _⟩
    · have h1 : (999999999999999 : Int) < n := by omega
      clear h htab
      go_enter Tryd.func14, Tryd.ntmps14
      go_wp2
      go_ret
      exact ⟨ret_str hf.out, Below.refl _ _⟩
end Go.Proofs.YtffjpidjhcnnmaaDoor
