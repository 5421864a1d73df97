/-
  Plain mathematics of chapter 2: the three forms of messages together. No Go in sight.
-/
import Derived.Test.YtohaghlhdkfkbaaDoorMY
namespace Go.Proofs.YtohaghlhdkfkbaaDoor
set_option linter.unusedVariables false
set_option linter.unusedSimpArgs false
open Go.RowKit

theorem httpF_size {a : ByteArray} {t : Int} (h : IsF 9999 httpF a t) : a.size = 29 := by
  obtain ⟨y, m, d, h, i, s, hv, _, _, rfl⟩ := h
  obtain ⟨_, _, b3, b4, _⟩ := vbd hv
  exact http_size _ _ _ _ _ _ _ (wdN'_lt _) b3 b4
theorem lineF_size {a : ByteArray} {t : Int} (h : IsF 9999 lineF a t) : a.size = 24 := by
  obtain ⟨y, m, d, h, i, s, hv, _, _, rfl⟩ := h
  obtain ⟨_, _, b3, b4, _⟩ := vbd hv
  exact line_size _ _ _ _ _ _ _ (wdN'_lt _) b3 b4
theorem longF_size {a : ByteArray} {t : Int} (h : IsF 2069 longF a t) : 30 ≤ a.size ∧ a.size ≤ 33 := by
  obtain ⟨y, m, d, h, i, s, hv, _, _, rfl⟩ := h
  obtain ⟨_, _, b3, b4, _⟩ := vbd hv
  have h1 := long_size (wdN' (secs y m d h i s)) y m d h i s b3 b4
  have h2 := dayB_size (wdN'_lt (secs y m d h i s))
  unfold longF
  omega
/-- One of the three. -/
def IsH (a : ByteArray) (t : Int) : Prop := IsF 9999 httpF a t ∨ IsF 2069 longF a t ∨ IsF 9999 lineF a t
theorem long_unique (a : ByteArray) (t t' : Int) (h : IsF 2069 longF a t) (h' : IsF 2069 longF a t') : t = t' := by
  have hs := longF_size h
  exact (long_reads a (a.size - 24) (by omega)).unique t t' h h'
theorem IsH.unique (a : ByteArray) (t t' : Int) (h : IsH a t) (h' : IsH a t') : t = t' := by
  rcases h with h | h | h <;> rcases h' with h' | h' | h'
  · exact (http_reads a).unique t t' h h'
  · have := httpF_size h; have := longF_size h'; omega
  · have := httpF_size h; have := lineF_size h'; omega
  · have := longF_size h; have := httpF_size h'; omega
  · exact long_unique a t t' h h'
  · have := longF_size h; have := lineF_size h'; omega
  · have := lineF_size h; have := httpF_size h'; omega
  · have := lineF_size h; have := longF_size h'; omega
  · exact (line_reads a).unique t t' h h'
/-- Three tries, one after the other. -/
theorem three_res {A B C : Int → Prop} {t1 t2 t3 : Int} {b1 b2 b3 : Bool} (r1 : Res A t1 b1) (r2 : Res B t2 b2) (r3 : Res C t3 b3) :
    Res (fun t => A t ∨ B t ∨ C t) (if b1 = true then t1 else if b2 = true then t2 else t3) (b1 || b2 || b3) := by
  rcases r1 with ⟨rfl, h1⟩ | ⟨rfl, rfl, h1⟩
  · exact .inl ⟨rfl, .inl h1⟩
  · rcases r2 with ⟨rfl, h2⟩ | ⟨rfl, rfl, h2⟩
    · exact .inl ⟨rfl, .inr (.inl h2)⟩
    · rcases r3 with ⟨rfl, h3⟩ | ⟨rfl, rfl, h3⟩
      · exact .inl ⟨rfl, .inr (.inr h3)⟩
      · refine .inr ⟨rfl, rfl, ?_⟩
        rintro t (h | h | h)
        · exact h1 _ h
        · exact h2 _ h
        · exact h3 _ h
theorem long_readsS (a : ByteArray) (q : Nat) (hq : a.size = q + 24) : Reads 2069 longF a (sYear (nS ((a.extract (q + 2) a.size).extract 7 9))) (sMon ((a.extract (q + 2) a.size).extract 3 6)) (nS ((a.extract (q + 2) a.size).extract 0 2)) (nS (((a.extract (q + 2) a.size).extract 10 18).extract 0 2)) (nS (((a.extract (q + 2) a.size).extract 10 18).extract 3 5)) (nS (((a.extract (q + 2) a.size).extract 10 18).extract 6 8)) := by
  intro y m d h i s hv hz ha
  obtain ⟨b1, b2, b3, b4, b5, b6, b7, b8, b9, _⟩ := vbd hv
  have hsz := long_size (wdN' (secs y m d h i s)) y m d h i s b3 b4
  have hr : (a.extract q a.size).data.toList = longTail y m d h i s := by
    rw [ha]
    refine long_tail ?_ b3 b4 rfl
    rw [ha] at hq
    unfold longF at hq
    omega
  obtain ⟨p1, p2, p3, p4⟩ := tail_pos hr b3 b4
  rw [ext_shift a q 7 9 (by omega) (by omega), ext_shift a q 3 6 (by omega) (by omega), ext_shift a q 0 2 (by omega) (by omega), ext_shift a q 10 18 (by omega) (by omega)]
  obtain ⟨c1, c2, c3⟩ := nS_clock p4 b7 b8 b9
  refine ⟨?_, ?_, nS_dig p3 b5, c1, c2, c3⟩
  · show sYear (nS ((a.extract q a.size).extract 9 11)) = y
    rw [nS_mod p1, show (10 : Nat) ^ 2 = 100 from rfl, sYear_mod b1 hz]
  · show sMon ((a.extract q a.size).extract 5 8) = m
    rw [p2, sMon_mon b3 b4]
theorem nS_lt2 (s : ByteArray) (h : s.size ≤ 2) : -1 ≤ nS s ∧ nS s < 100 := by
  have h1 := numS_bd s.data.toList
  have h2 : ((10 : Int) ^ s.data.toList.length) ≤ 100 := by
    rw [len_data]
    have : s.size = 0 ∨ s.size = 1 ∨ s.size = 2 := by omega
    rcases this with e | e | e <;> rw [e] <;> decide
  unfold nS
  omega
theorem sYear_le {n : Int} (h0 : -1 ≤ n) (h1 : n < 100) : 1969 < sYear n ∧ sYear n ≤ 2069 := by unfold sYear; split <;> omega
end Go.Proofs.YtohaghlhdkfkbaaDoor
