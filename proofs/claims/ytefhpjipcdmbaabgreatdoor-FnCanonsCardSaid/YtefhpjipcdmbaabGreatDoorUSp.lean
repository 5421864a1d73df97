/-
  A text cut at each byte of one kind by the library, and texts joined by one.
-/
import Derived.Test.YtefhpjipcdmbaabGreatDoorMSg
import Derived.Test.YtefhpjipcdmbaabGreatDoorAS
import Derived.Test.YtefhpjipcdmbaabGreatDoorD1
import Derived.Test.YtefhpjipcdmbaabGreatDoorSSp
import Derived.Shelf.Strings.Split
import Derived.Test.YtefhpjipcdmbaabGreatDoorSIx
import Derived.Test.YtefhpjipcdmbaabGreatDoorSJ
namespace Go.Proofs.YtefhpjipcdmbaabGreatDoor
set_option linter.unusedVariables false
set_option linter.unusedSimpArgs false
open Go.RowKit
theorem IndexS_any (s : ByteArray) (c : UInt8) (w : World) :
    Calls Tryz.prog 64 #[.string s, .string ⟨#[c]⟩] w fun e w' => e = .returned (.int .i64 (Lib.indexB s ⟨#[c]⟩)) ∧ w' = w := by
  rw [idxS_B]
  exact Any.strings_Index_one Tryz.lays143 s c w
theorem CountS_any (s : ByteArray) (c : UInt8) (w : World) :
    Calls Tryz.prog 97 #[.string s, .string ⟨#[c]⟩] w fun e w' => e = .returned (.int .i64 (Lib.countB s ⟨#[c]⟩)) ∧ w' = w := by
  refine (Any.strings_Count_one { Tryz.lays221 with } s c w).mono fun e w' ⟨he, hw⟩ => ⟨?_, hw⟩
  rw [he]
  show _ = Ending.returned (Value.int .i64 ((Lib.count s.data.toList [c] : Nat) : Int))
  rw [Lib.count_one]
  rfl
theorem genSplitS (s : ByteArray) (c : UInt8) (n : Int) (N : Nat) (w : World) (hs : s.size < 4294967281) (hn0 : n ≠ 0) (hn63 : n ≤ 9223372036854775807) (hN : (N : Int) = min (if n < 0 then (Lib.countB s ⟨#[c]⟩ : Int) + 1 else n) ((s.size : Int) + 1)) :
    Calls Tryz.prog 76 #[.string s, .string ⟨#[c]⟩, .int .i64 0, .int .i64 n] w fun e w' =>
      e = .returned (.slice (some ⟨w.heap.size, 0, none⟩) (Lib.splitB ⟨#[c]⟩ 0 (N - 1) s).length N) ∧ w' = w.alloc (.cells (Lib.cellsOf (Lib.splitB ⟨#[c]⟩ 0 (N - 1) s) N) 9) :=
  Any.strings_genSplit_core Tryz.lays221 (by kernel_rfl) s ⟨#[c]⟩ 0 n N w hs (Nat.le_refl _) (Nat.zero_le _) (fun x _ _ => IndexS_any x c _) (CountS_any s c w) hn0 hn63 hN
/-- A whole row of the call's own, as Split hands it back. -/
theorem buf_made (w : World) (l : List ByteArray) (hl : 1 ≤ l.length) (hm : l.length ≤ maxLen) : BufS w (w.alloc (.cells ((l.map Value.string).toArray) 9)) (.slice (some ⟨w.heap.size, 0, none⟩) l.length l.length) l := by
  refine ⟨below_a1 w _, by simp, .inr ⟨w.heap.size, l.length, (l.map Value.string).toArray, rfl, Nat.le_refl _, heap_alloc_new w _, Nat.le_refl _, hm, by simp, ?_⟩⟩
  simp only [Nat.mul_one]
  exact List.take_of_length_le (by simp)
set_option maxHeartbeats 1000000 in
theorem SplitS_any (s : ByteArray) (c : UInt8) (w : World) (hs : s.size ≤ 1048576) :
    Calls Tryz.prog 46 #[.string s, .string ⟨#[c]⟩] w fun e w' => ∃ v, e = .returned v ∧ BufS w w' v (splS c s) := by
  have h1 : 1 ≤ (⟨#[c]⟩ : ByteArray).size := Nat.le_refl _
  have hle := splS_cnt c s
  have hlen := splS_len c s
  have g := genSplitS s c (-1) (cntS c s + 1) w (by omega) (by decide) (by decide) (by rw [if_pos (by decide)]; unfold cntS at hle ⊢; omega)
  rw [Nat.add_sub_cancel] at g
  change Calls _ _ _ w fun e w' => e = .returned (.slice (some ⟨w.heap.size, 0, none⟩) (splS c s).length (cntS c s + 1)) ∧ w' = w.alloc (.cells (Lib.cellsOf (splS c s) (cntS c s + 1)) 9) at g
  rw [← hlen, Lib.cellsOf_full] at g
  have HB := hideB2 (buf_made w (splS c s) (by omega) (by unfold maxLen; omega))
  have HC := hideB2 g
  clear g
  generalize splS c s = L at *
  generalize hA : (L.map Value.string).toArray = arr at *
  clear hA
  generalize hq : L.length = q at *
  clear hq hlen hle
  go_enter Tryz.func46, Tryz.ntmps46
  go_wp2_with (go_at_call 76; refine HC.out.mono ?_; rintro e w' ⟨rfl, hw⟩; rw [hw])
  go_ret
  exact ⟨_, rfl, HB.out⟩
theorem Tryz.extraS : Builder.Extra Tryz.prog Tryz.lays156_ren := { sizeBuilder := by kernel_rfl, liesBuilder := by kernel_rfl, t5 := Tryz.underlying5, a5 := Tryz.isAgg5, z5 := Tryz.sizeOf5, v5 := Tryz.zeroValue5, infoByte := by kernel_rfl, cellsByte := by kernel_rfl, sizeByte := by kernel_rfl, neB5 := by decide }
theorem JoinS_any (w0 w : World) (v : Value) (c : UInt8) (l : List ByteArray) (hb : BufS w0 w v l) (hl : l.length ≤ 4194304) (hlen : (joinS c l).size ≤ 4194304) :
    Calls Tryz.prog 48 #[v, .string ⟨#[c]⟩] w fun e w' => e = .returned (.string (joinS c l)) ∧ Below w.heap.size w w' := by
  rcases hb.own.2 with ⟨h1, h2⟩ | ⟨g, cap, cur, h1, hg, hh, hc, _⟩
  · obtain rfl : l = [] := List.eq_nil_of_length_eq_zero h2
    subst h1
    refine (Any.strings_Join_none Tryz.lays156 Tryz.extraS none 0 ⟨#[c]⟩ w).mono ?_
    rintro e w' ⟨rfl, rfl⟩
    exact ⟨rfl, Below.refl _ _⟩
  · have hlt := (hb.own.lt g (by rw [h1]; rfl)).2
    have hcell : ∀ (j : Nat) x, l[j]? = some x → w.cell? ⟨g, 0 + j, none⟩ = some (.string x) := by
      intro j x hx
      have := hb.own.cells (g := g) (by rw [h1]; rfl) j (.string x) (by simp [hx])
      rwa [Addr.add_lit] at this
    subst h1
    have := Any.strings_Join Tryz.lays156 Tryz.extraS g 0 cap l ⟨#[c]⟩ w hcell hlt (by omega) hc (by
      have e : (joinS c l).size = (Lib.join (l.map (·.data.toList)) [c]).length := by show (Lib.join (l.map (·.data.toList)) [c]).toArray.size = _; simp
      show (Lib.join (l.map (·.data.toList)) [c]).length ≤ _
      omega)
    refine this.mono ?_
    rintro e w' ⟨rfl, hb'⟩
    exact ⟨rfl, hb'⟩
theorem BufS.shrink {w0 w : World} {g cap n : Nat} {l : List ByteArray} (h : BufS w0 w (.slice (some ⟨g, 0, none⟩) n cap) l) (m : Nat) (hm : m ≤ l.length) : BufS w0 w (.slice (some ⟨g, 0, none⟩) m cap) (l.take m) := by
  refine ⟨h.below, by simp <;> omega, .inr ?_⟩
  rcases h.own.2 with ⟨h1, _⟩ | ⟨g', cap', cur, h1, hg, hh, hc, hx, hcs, ht⟩
  · cases h1
  · injection h1 with e1 e2 e3
    injection e1 with e1
    injection e1 with e1
    subst e1 e3
    refine ⟨g, cap, cur, by simp <;> omega, hg, hh, by simp <;> omega, hx, hcs, ?_⟩
    have := congrArg (List.take m) ht
    rw [List.take_take, ← List.map_take] at this
    rw [← this]
    congr 1
    simp <;> omega
end Go.Proofs.YtefhpjipcdmbaabGreatDoor
