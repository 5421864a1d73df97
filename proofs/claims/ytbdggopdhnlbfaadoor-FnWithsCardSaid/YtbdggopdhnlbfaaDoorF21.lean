/-
  Chapter 5: a field comes back from its line; the laws' sign of life.
-/
import Derived.Test.YtbdggopdhnlbfaaDoorF5
import Derived.Test.YtbdggopdhnlbfaaDoorF11
namespace Go.Proofs.YtbdggopdhnlbfaaDoor
set_option linter.unusedVariables false
set_option linter.unusedSimpArgs false
open Go.RowKit
theorem trimL_pre (a m : List UInt8) (h : ∀ x ∈ a, gap8 x = true) : trimL (a ++ m) = trimL m := by
  unfold trimL
  rw [dropWhile_all gap8 a m h]
theorem trimL_suf (m z : List UInt8) (h : ∀ x ∈ z, gap8 x = true) : trimL (m ++ z) = trimL m := by
  unfold trimL
  rw [List.dropWhile_append]
  have hz : z.dropWhile gap8 = [] := by
    have := dropWhile_all gap8 z [] h
    rw [List.append_nil] at this
    rw [this]; rfl
  split
  · rename_i he
    have : m.dropWhile gap8 = [] := by simpa using he
    rw [hz, this]
  · rw [List.reverse_append, dropWhile_all gap8 z.reverse _ (fun x hx => h x (by simpa using hx))]
theorem tok_no_colon {d : ByteArray} (h : tokB d = true) : ∀ j, j < d.size → at8 d j ≠ 58 := by
  intro j hj he
  have hall : d.data.toList.all tok8 = true := by
    unfold tokB at h
    rw [Bool.and_eq_true] at h
    exact h.2
  have hl : j < d.data.toList.length := by rw [len_data]; exact hj
  have := List.all_eq_true.1 hall _ (List.getElem_mem hl)
  unfold at8 at he
  rw [List.getD, List.getElem?_eq_getElem hl] at he
  have he' : d.data.toList[j] = 58 := he
  rw [he'] at this
  revert this
  decide
/-- A line that opens with the name and a ':'. -/
def colB (d : ByteArray) (z : List UInt8) : ByteArray := ⟨(d.data.toList ++ [58] ++ z).toArray⟩
theorem colB_list (d : ByteArray) (z : List UInt8) : (colB d z).data.toList = d.data.toList ++ [58] ++ z := rfl
theorem colB_size (d : ByteArray) (z : List UInt8) : (colB d z).size = d.size + 1 + z.length := by
  rw [← len_data, colB_list, List.length_append, List.length_append, len_data]; simp
theorem read_back (d s : ByteArray) (z : List UInt8) (hq : fieldQ (d, s) = true) (hz : trimL z = s.data.toList) : readO (colB d z) = true ∧ readF (colB d z) = (d, s) := by
  have ht := (fieldQ_iff.1 hq).2.1
  have hlen := colB_size d z
  have hat : ∀ j, j < d.size → at8 (colB d z) j = at8 d j := by
    intro j hj
    unfold at8
    rw [colB_list, List.append_assoc, List.getD, List.getD, List.getElem?_append_left (by rw [len_data]; exact hj)]
  have h58 : at8 (colB d z) d.size = 58 := by
    unfold at8
    rw [colB_list, List.append_assoc, List.getD, List.getElem?_append_right (by rw [len_data]; exact Nat.le_refl _), len_data, Nat.sub_self]; rfl
  have hi : idxC (colB d z) = (d.size : Int) := idxC_of (by omega) h58 (fun j hj => by rw [hat j hj]; exact tok_no_colon ht j hj)
  have hc : cutF (colB d z) d.size = (d, s) := by
    unfold cutF
    refine Prod.ext (bytes_ext ?_) (bytes_ext ?_)
    · show ((colB d z).extract 0 d.size).data.toList = _
      rw [extract_list, colB_list, List.append_assoc, List.drop_zero, List.take_append_of_le_length (by rw [len_data]; exact Nat.le_refl _), List.take_of_length_le (by rw [len_data]; exact Nat.le_refl _)]
    · show trimL ((colB d z).extract (d.size + 1) (colB d z).size).data.toList = _
      rw [extract_list, List.take_of_length_le (by rw [len_data]; exact Nat.le_refl _), colB_list, List.drop_append_of_le_length (by rw [List.length_append, len_data]; simp), List.drop_of_length_le (by rw [List.length_append, len_data]; simp), List.nil_append, hz]
  obtain ⟨h1, h2⟩ := readO_some hi
  rw [hc, hq] at h1 h2
  exact ⟨h1, h2⟩
theorem trim_val {d s : ByteArray} (hq : fieldQ (d, s) = true) : trimL s.data.toList = s.data.toList := by
  have := (valQ_iff.1 (fieldQ_iff.1 hq).2.2).2.2
  exact congrArg (fun x => x.data.toList) this
theorem read_line {d s : ByteArray} (hq : fieldQ (d, s) = true) : readO (lineF (d, s)) = true ∧ readF (lineF (d, s)) = (d, s) := by
  have e : lineF (d, s) = colB d ([32] ++ s.data.toList) := by
    apply bytes_ext
    rw [colB_list]
    simp [lineF]
  rw [e]
  refine read_back d s _ hq ?_
  rw [trimL_pre [32] _ (by decide), trim_val hq]
theorem read_wide {d s : ByteArray} (hq : fieldQ (d, s) = true) : readO (d ++ ⟨#[58, 9, 32]⟩ ++ s ++ ⟨#[32]⟩) = true ∧ readF (d ++ ⟨#[58, 9, 32]⟩ ++ s ++ ⟨#[32]⟩) = (d, s) := by
  have e : d ++ ⟨#[58, 9, 32]⟩ ++ s ++ ⟨#[32]⟩ = colB d ([9, 32] ++ (s.data.toList ++ [32])) := by
    apply bytes_ext
    rw [colB_list]
    simp [Go.Joins.data_append]
  rw [e]
  refine read_back d s _ hq ?_
  rw [trimL_pre [9, 32] _ (by decide), trimL_suf _ [32] (by decide), trim_val hq]
theorem one_row {W : World} {b : Nat} {d s : ByteArray} {t : TypeId} (h : Blk W b #[.string d, .string s] t) : SlF W (.slice (some ⟨b, 0, none⟩) 1 1) [(d, s)] := by
  refine .inr ⟨b, 1, rfl, ⟨fun j hj => ?_, fun j hj => ?_, fun j => h.free j, h.lt⟩⟩
  · have e : j = 0 := by simpa using hj
    subst e
    exact h.cell 0
  · have e : j = 0 := by simpa using hj
    subst e
    exact h.cell 1
theorem life1 : readO ⟨#[65, 58, 32, 32, 98, 32]⟩ = true ∧ readF ⟨#[65, 58, 32, 32, 98, 32]⟩ = (⟨#[65]⟩, ⟨#[98]⟩) := ⟨by kernel_rfl, by kernel_rfl⟩
theorem life2 : getO [(⟨#[65]⟩, ⟨#[98]⟩)] ⟨#[97]⟩ = true ∧ getB [(⟨#[65]⟩, ⟨#[98]⟩)] ⟨#[97]⟩ = ⟨#[98]⟩ := ⟨by kernel_rfl, by kernel_rfl⟩
theorem life3 : (hopL []).length = 7 := by kernel_rfl
set_option maxHeartbeats 2000000 in
theorem heads_any (w : World) (hh : Hops w) :
    Calls Tryd.prog 33 #[] w fun e w' => e = .returned (.bool true) ∧ Below w.heap.size w w' := by
  have HR := hideB2 (fun W => ReadField_any ⟨#[65, 58, 32, 32, 98, 32]⟩ W (by unfold maxLen; decide))
  have HG := hideB2 (fun b W (h : SlF W (.slice (some ⟨b, 0, none⟩) 1 1) [(⟨#[65]⟩, ⟨#[98]⟩)]) => Get_any (.slice (some ⟨b, 0, none⟩) 1 1) [(⟨#[65]⟩, ⟨#[98]⟩)] ⟨#[97]⟩ W h (by decide) (by decide) (by unfold maxLen; decide))
  have HN := hideB2 (fun W (g : Hops W) => HopNames_any (.slice none 0 0) [] W (.inl ⟨rfl, rfl⟩) (by decide) (by decide) g)
  have h7 := life3
  rw [life1.1, life1.2] at HR
  rw [life2.1, life2.2] at HG
  generalize hopL [] = N at *
  go_enter Tryd.func33, Tryd.ntmps33
  go_wp2_with fail
  refine (HR.out _).mono ?_
  rintro e w1 ⟨rfl, hb1⟩
  have ha1 := below_a1 w1 (.cells #[.string ⟨#[65]⟩, .string ⟨#[98]⟩] 49)
  have N1 := Blk.new w1 #[.string ⟨#[65]⟩, .string ⟨#[98]⟩] 49
  have hsz1 : (w1.alloc (.cells #[.string ⟨#[65]⟩, .string ⟨#[98]⟩] 49)).heap.size = w1.heap.size + 1 := by simp
  go_wp2_with fail
  generalize w1.alloc (.cells #[.string ⟨#[65]⟩, .string ⟨#[98]⟩] 49) = W1 at *
  have N2 := Blk.new W1 #[.string ⟨#[65]⟩, .string ⟨#[98]⟩] 49
  have ha2 := below_a1 W1 (.cells #[.string ⟨#[65]⟩, .string ⟨#[98]⟩] 49)
  rw [hsz1] at N2
  refine (HG.out _ _ (one_row N2)).mono ?_
  rintro e w3 ⟨rfl, hb3⟩
  have hbw := below_then (below_then (below_then hb1 ha1) ha2) hb3
  obtain ⟨p0, p1⟩ := ((N1.later ha2).later hb3).c2
  have hh3 := hh.later hbw
  have HBW := hideB2 hbw
  clear N1 N2 ha1 ha2 hb1 hb3 hbw hsz1 HR HG
  go_wp2_with (go_at_call 71; refine (HN.out _ hh3).mono ?_; rintro e w4 ⟨v4, rfl, hbuf4⟩; obtain ⟨a4, c4, rfl⟩ := hbuf4.form; rw [h7])
  go_ret
  exact ⟨rfl, below_then HBW.out hbuf4.below⟩
end Go.Proofs.YtbdggopdhnlbfaaDoor
