/-
  Chapter 5: the names that speak of this connection: the program's side.
-/
import Derived.Test.YtbdggopdhnlbfaaDoorMH
import Derived.Test.YtbdggopdhnlbfaaDoorF9
import Derived.Test.YtbdggopdhnlbfaaDoorSK
import Derived.Deep.WholeRow
namespace Go.Proofs.YtbdggopdhnlbfaaDoor
set_option linter.unusedVariables false
set_option linter.unusedSimpArgs false
open Go.RowKit Go.Maps Go.Sort Go.Shelf
/-- The table of the seven, as the start lays it. -/
structure Hops (w : World) : Prop where
  cell : ∀ j, j < 7 → w.cell? ⟨0, j, none⟩ = some (.string (txAt base7 j))
  lt : 0 < w.heap.size
theorem Hops.later {w w' : World} (h : Hops w) (k : Below w.heap.size w w') : Hops w' := ⟨fun j hj => by rw [k.cell (p := ⟨0, j, none⟩) h.lt]; exact h.cell j hj, Nat.lt_of_lt_of_le h.lt k.size⟩
/-- Block b is a map whose keys are the texts M. -/
def Kys (w : World) (b n : Nat) (M : List ByteArray) : Prop := ∃ D : DataW Unit, w.ownsMap Tryd.prog 9 (plainElem Tryd.prog 3) b n D ∧ CntD D n (hasT M) ∧ ∀ s, Maps.has D (.string s) = hasT M s
theorem Kys.later {w w' : World} {b n : Nat} {M : List ByteArray} (h : Kys w b n M) (hb : Below w.heap.size w w') : Kys w' b n M := by
  obtain ⟨D, h1, h2⟩ := h
  exact ⟨D, h1.kept (below_gb hb none) (by simp), h2⟩
theorem kys_put {D : DataW Unit} {M M' : List ByteArray} {s : List UInt8} {c : Int} (hm : IsMap D) (h : ∀ t, Maps.has D (.string t) = hasT M t) (hq : ∀ t, hasT M' t = (hasT M t || t == s)) : ∀ t, Maps.has (D.put (.string s) (.lit (.int .i64 c))) (.string t) = hasT M' t := by
  intro t
  by_cases e : t = s
  · subst e
    rw [has_put_same hm (show WideAt.IsKeyLit (.string t) from trivial), hq]; simp
  · rw [has_put_other (by intro hh; injection hh with hh; exact e hh), h, hq]
    have : (t == s) = false := by simpa using e
    rw [this, Bool.or_false]
theorem Tryd.sorts (m : Nat) : AnyZ.SortsIn Tryd.prog Tryd.laysSorted_ren Fence.wide m :=
  ⟨fun blk off cap ss W hH hblk hsz => callsIn_wide.2 (AnyM.slices_Sort_string Tryd.laysSort blk off cap ss W hH hblk hsz),
   fun p cap W => callsIn_wide.2 (AnyM.slices_Sort_string_none Tryd.laysSort p cap W)⟩
theorem Keys_any (b : Nat) (W : World) : Calls Tryd.prog 94 #[.map (some b)] W fun e w' => e = .returned (.func (.func 116) #[] #[.pointer (some ⟨W.heap.size, 0, none⟩)]) ∧ w' = W.alloc (.cells #[.map (some b)] 107) :=
  (callsIn_wide (n := 5)).1 (AnyZ.keys_in Tryd.laysKeys Fence.wide 5 trivial rfl (some b) W)
set_option maxHeartbeats 1000000 in
theorem Sorted_keys (b nn : Nat) (M : List ByteArray) (w : World) (h : Kys w b nn M) (hM : Asc M) (hn : nn ≤ 100000) :
    Calls Tryd.prog 93 #[.func (.func 116) #[] #[.pointer (some ⟨w.heap.size, 0, none⟩)]] (w.alloc (.cells #[.map (some b)] 107)) fun e w' => ∃ v, e = .returned v ∧ BufS w w' v M := by
  obtain ⟨D0, hown, _, hhas⟩ := h
  have hbl := hown.lt
  have hsz := hown.size_le
  have hmax : Maps.size D0 ≤ maxLen := by unfold maxLen; omega
  have hbytes : Maps.size D0 * 16 ≤ 140737488355328 := by omega
  have hseq : SeqGives Fence.wide 2 Tryd.prog 116 #[.pointer (some ⟨w.heap.size, 0, none⟩)] encStr (fun ss => ss.Perm (strKeys D0)) (Maps.size D0) (w.alloc (.cells #[.map (some b)] 107)) :=
    AnyZ.keys_gives (ρ := Tryd.laysKeys_ren) { Tryd.laysKeys with } Fence.wide _ trivial rfl (by omega) w.heap.size b nn D0 _ (by simp) (by simp) (by
      obtain ⟨es, clock, hb, Ft, hs, hD⟩ := hown
      exact ⟨es, clock, (Below.heap_alloc _ _ b hbl).trans hb, Ft, hs, hD⟩)
  have cS := AnyZ.sorted_in Tryd.laysSorted Fence.wide 5 trivial trivial trivial trivial rfl (by omega) (Tryd.sorts _) (enters_of Tryd.func115 (by kernel_rfl) rfl) 116 #[.pointer (some ⟨w.heap.size, 0, none⟩)] trivial (enters_of Tryd.func116 (by kernel_rfl) rfl) _ _ hmax hbytes _ hseq
  refine ((callsIn_wide (n := 5)).1 cS).mono ?_
  rintro e w' ⟨v, ss, rfl, hp, hrow, _, hb⟩
  have ha := below_a1 w (.cells #[.map (some b)] 107)
  refine ⟨v, rfl, below_then ha hb, ?_⟩
  have hMk : (M.map fun t => t.data.toList).Perm (strKeys D0) := by
    obtain ⟨es, rfl, hp0⟩ := hown.tidy Tryd.keyS
    obtain ⟨es', he, hk⟩ := hown.keysOf
    injection he with he
    subst he
    refine perm_strKeys hp0 (fun p hp => ?_) hM.nodup (fun x => ?_)
    · obtain ⟨kv, hkv⟩ := hk p hp
      obtain ⟨x, _, hx, _⟩ := Maps.keyOf_str Tryd.underlying9 hkv
      exact ⟨x, hx⟩
    · rw [hhas, hasT_iff, List.mem_map]
      constructor
      · rintro ⟨t, ht, rfl⟩; exact ht
      · intro hx; exact ⟨_, hx, rfl⟩
  have hsort : ss.mergeSort (fun x y => decide (x ≤ y)) = M.map fun t => t.data.toList := by
    have := mergeSort_of_perm (hp.trans hMk.symm)
    rw [show (fun x y : List UInt8 => decide (x ≤ y)) = leB from rfl, this, hM.sort]
  have hlen : ss.length = M.length := by
    have := (hp.trans hMk.symm).length_eq
    simpa using this
  rw [hsort, hlen, List.map_map] at hrow
  have hrow2 := ownsRow_base_a hrow ha.size
  have e : (M.map (encStr ∘ fun t => t.data.toList)) = M.map Value.string := List.map_congr_left fun t _ => rfl
  rw [e] at hrow2
  exact hrow2
end Go.Proofs.YtbdggopdhnlbfaaDoor
